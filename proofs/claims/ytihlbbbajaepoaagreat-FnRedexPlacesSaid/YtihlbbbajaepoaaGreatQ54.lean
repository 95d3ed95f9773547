/-
  DkI.
-/
import Derived.Test.YtihlbbbajaepoaaGreatQ17
import Derived.Test.YtihlbbbajaepoaaGreatQ49
import Derived.BigQuiet
namespace Go.Proofs.YtihlbbbajaepoaaGreat
open Go.RowKit
set_option maxRecDepth 100000 in
theorem dkInts_any (N M : Int → Int) (n m : Nat) (w : World) (v1 v2 : Value) (h0 : n ≤ 1048576) (h1 : Ints w 0 N n v1) (h2 : Ints w 0 M m v2) : Calls Tryz.prog 39 #[v1, v2] w (BoolPost w (tr (sameN N n M m))) := by
 obtain ⟨a, cap, b, o, rfl, hp, hc⟩ := h1
 obtain ⟨a', cap', b', o', rfl, hp', hc'⟩ := h2
 have HP := tuck hp
 have HC := tuck hc
 have HP' := tuck hp'
 have HC' := tuck hc'
 clear hp hc hp' hc'
 by_cases hnm : n = m
 rotate_left
 ·have hne : ((n : Int) != (m : Int)) = true := by simp; omega
  rw [tr_not (fun h => hnm h.1)]
  go_enter Tryz.func39, Tryz.ntmps39
  go_wp2
  go_ret
  exact ⟨rfl, Below.refl _ _⟩
 subst hnm
 have hll : ((n : Int) != (n : Int)) = false := by simp
 have HY : Hid ((∀ j : Nat, j < n → N j = M j) → ∀ W, Below w.heap.size w W → BoolPost w (tr (sameN N n M n)) (.returned (.bool true)) W) := tuck fun h W hb => by rw [tr_of ⟨rfl, h⟩]; exact ⟨rfl, hb⟩
 have HN : Hid ((∃ j : Nat, j < n ∧ N j ≠ M j) → ∀ W, Below w.heap.size w W → BoolPost w (tr (sameN N n M n)) (.returned (.bool false)) W) := tuck fun h W hb => by
  obtain ⟨j, h1, h2⟩ := h
  rw [tr_not fun h => h2 (h.2 j h1)]
  exact ⟨rfl, hb⟩
 generalize BoolPost w (tr (sameN N n M n)) = post at *
 go_enter Tryz.func39, Tryz.ntmps39
 go_wp2
 go_loopw [5] (fun i wr => ∃ q : Nat, q ≤ n ∧ i = .int .i64 q ∧ Below w.heap.size w wr ∧ ∀ j : Nat, j < q → N j = M j) (fun i _ => n - (intOf i).toNat)
 case atStart => exact ⟨0, Nat.zero_le _, rfl, Below.refl _ _, fun j h => absurd h (by omega)⟩
 case round =>
  obtain ⟨q, hq, rfl, hb, hall⟩ := hrel
  by_cases hlt : q < n
  ·have hlti : ((q : Int) < (n : Int)) := by omega
   have hqi : (0 : Int) ≤ (q : Int) := by omega
   obtain ⟨rfl, _, hbw⟩ := HP.out (by omega)
   obtain ⟨rfl, _, hbw'⟩ := HP'.out (by omega)
   have c0 := (hb.cell (p := ⟨b, o + q, none⟩) hbw).trans (HC.out q hlt)
   have c1 := (hb.cell (p := ⟨b', o' + q, none⟩) hbw').trans (HC'.out q hlt)
   have HB := tuck hb
   have HALL := tuck hall
   clear hb hall
   by_cases hnn : N q = M q
   ·have hne : (N q != M q) = false := by simp [hnn]
    have HNN := tuck hnn
    clear hnn
    go_wp2
    go_still (by kernel_rfl)
    go_wp2
    go_roundw
    case rel => exact ⟨q + 1, by omega, by go_num, HB.out.drew, fun j hj => by
     by_cases e : j = q
     ·rw [e]; exact HNN.out
     ·exact HALL.out j (by omega)⟩
    case measure => simp [intOf]; omega
   ·have hne : (N q != M q) = true := by simpa using hnn
    have HNN := tuck hnn
    clear hnn
    go_wp2
    go_still (by kernel_rfl)
    go_wp2
    exact HN.out ⟨q, hlt, HNN.out⟩ _ HB.out.drew
  ·have hge2 : ¬ ((q : Int) < (n : Int)) := by omega
   have e : q = n := by omega
   subst e
   have HB := tuck hb
   have HALL := tuck hall
   clear hb hall
   go_wp2
   exact HY.out HALL.out _ HB.out
theorem cellAt_keep {g q : Nat} {x : Value} {A B : World} (h : g < A.heap.size ∧ A.cell? ⟨g, q, none⟩ = some x) (hb : Below A.heap.size A B) : g < B.heap.size ∧ B.cell? ⟨g, q, none⟩ = some x :=
 ⟨Nat.lt_of_lt_of_le h.1 hb.size, (hb.cell (p := ⟨g, q, none⟩) h.1).trans h.2⟩
theorem cellAt_set3 {g q gz : Nat} {x y0 y1 y2 : Value} {A : World} (h : g < A.heap.size ∧ A.cell? ⟨g, q, none⟩ = some x) (hn : g ≠ gz) : g < (((A.setCell ⟨gz, 0, none⟩ y0).setCell ⟨gz, 1, none⟩ y1).setCell ⟨gz, 2, none⟩ y2).heap.size ∧ (((A.setCell ⟨gz, 0, none⟩ y0).setCell ⟨gz, 1, none⟩ y1).setCell ⟨gz, 2, none⟩ y2).cell? ⟨g, q, none⟩ = some x := by
 refine ⟨by simpa [World.setCell] using h.1, ?_⟩
 rw [World.cell?_of_block (a := ⟨g, q, none⟩) (Below.heap_setCell _ _ _ g (by show g ≠ gz; exact hn)), World.cell?_of_block (a := ⟨g, q, none⟩) (Below.heap_setCell _ _ _ g (by show g ≠ gz; exact hn)), World.cell?_of_block (a := ⟨g, q, none⟩) (Below.heap_setCell _ _ _ g (by show g ≠ gz; exact hn))]
 exact h.2
end Go.Proofs.YtihlbbbajaepoaaGreat
