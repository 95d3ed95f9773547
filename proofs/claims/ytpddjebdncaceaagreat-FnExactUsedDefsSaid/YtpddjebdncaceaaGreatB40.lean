/-
  PlAB.
-/
import Derived.Test.YtpddjebdncaceaaGreatB04
import Derived.Test.YtpddjebdncaceaaGreatB06
import Derived.Test.YtpddjebdncaceaaGreatB09
import Derived.Test.YtpddjebdncaceaaGreatB10
import Derived.Test.YtpddjebdncaceaaGreatB12
import Derived.Test.YtpddjebdncaceaaGreatB13
import Derived.Test.YtpddjebdncaceaaGreatB14
import Derived.Test.YtpddjebdncaceaaGreatB15
import Derived.Test.YtpddjebdncaceaaGreatB16
import Derived.Test.YtpddjebdncaceaaGreatB19
import Derived.Test.YtpddjebdncaceaaGreatB20
import Derived.Test.YtpddjebdncaceaaGreatB21
import Derived.Test.YtpddjebdncaceaaGreatB28
import Derived.Test.YtpddjebdncaceaaGreatB29
import Derived.Test.YtpddjebdncaceaaGreatB30
import Derived.ChangeAlike
import Derived.Deep.AppendLies
import Derived.Deep.DeepCutAuto
import Derived.Lib.AppendZeros
import Derived.LoopIn
import Derived.LoopNIn
import Derived.OwnWalkIn
import Derived.RangeFuncBound
import Derived.RangeFuncCalls
import Derived.RangeFuncLeaves
import Derived.RangeFuncNested
import Derived.RegionTactic
import Derived.Shelf.Abstract
import Derived.Shelf.RegionOpen
import Derived.StillTailTactics
import Derived.TacticsInMore
import Derived.WalkKit
namespace Go.Proofs.YtpddjebdncaceaaGreat
open Go.RowKit
set_option linter.unusedVariables false
set_option linter.unusedSimpArgs false
def IntsB (w : World) (g : Nat) (N : Int → Int) (len : Nat) (v : Value) : Prop :=
 ∃ a cap, v = .slice a len cap ∧ len ≤ cap ∧ (0 < len → a = some ⟨g, 0, none⟩ ∧ ∃ cs : Array Value, w.heap[g]? = some (.cells cs 3 (0, 0)) ∧ len ≤ cs.size ∧ ∀ i : Nat, i < len → cs[i]? = some (.int .i64 (N i)))
set_option maxRecDepth 100000 in
theorem markN_any (N : Int → Int) (len g : Nat) (k : Int) (w : World) (v : Value) (h0 : len ≤ 1048576) (hk0 : 0 ≤ k) (hk1 : k + len ≤ 4611686018427387904) (h : IntsB w g N len v) : Calls Tryz.prog 17 #[v, .int .i64 k] w fun e w' => e = .returned (.int .i64 (k + len)) ∧ But [g] w w' ∧ IntsB w' g (fun i => k + i) len v := by
 obtain ⟨a, cap, rfl, hlc, hp⟩ := h
 have HP := tuck hp
 have HF : Hid (∀ W kq, kq = k + (len : Int) → But [g] w W → (0 < len → ∃ cs : Array Value, W.heap[g]? = some (.cells cs 3 (0, 0)) ∧ len ≤ cs.size ∧ ∀ j : Nat, j < len → cs[j]? = some (.int .i64 (k + j))) → (fun (e : Ending) (w' : World) => e = .returned (.int .i64 (k + len)) ∧ But [g] w w' ∧ IntsB w' g (fun i => k + i) len (.slice a len cap)) (.returned (.int .i64 kq)) W) := tuck fun W kq e hb h => ⟨by rw [e], hb, a, cap, rfl, hlc, fun h0 => ⟨(hp h0).1, h h0⟩⟩
 clear hp
 generalize (fun (e : Ending) (w' : World) => e = .returned (.int .i64 (k + len)) ∧ But [g] w w' ∧ IntsB w' g (fun i => k + i) len (.slice a len cap)) = post at *
 go_enter Tryz.func17, Tryz.ntmps17
 go_wp2
 go_loopw [5, 1] (fun i kk wr => ∃ (q : Nat) (kq : Int), q ≤ len ∧ i = .int .i64 q ∧ kk = .int .i64 kq ∧ kq = k + q ∧ But [g] w wr ∧ (0 < len → ∃ cs : Array Value, wr.heap[g]? = some (.cells cs 3 (0, 0)) ∧ len ≤ cs.size ∧ ∀ j : Nat, j < q → cs[j]? = some (.int .i64 (k + j)))) (fun i _ _ => len - (intOf i).toNat)
 case atStart => exact ⟨0, k, Nat.zero_le _, rfl, rfl, by simp, But.refl _ _, fun h0 => by
  obtain ⟨-, cs, k1, k2, -⟩ := HP.out h0
  exact ⟨cs, k1, k2, fun j hj => absurd hj (by omega)⟩⟩
 case round =>
  obtain ⟨q, kq, hq, rfl, rfl, hkq, hb, hcs⟩ := hrel
  by_cases hlt : q < len
  ·have hlti : ((q : Int) < (len : Int)) := by omega
   have hqi : (0 : Int) ≤ (q : Int) := by omega
   obtain ⟨cs, hcs, hcz', hN⟩ := hcs (by omega)
   obtain ⟨rfl, -⟩ := HP.out (by omega)
   have hbo := block_of_cells hcs
   have d0 : wr.cell? ⟨g, q, none⟩ = some (cs[q]'(by omega)) := by rw [hbo.2.1 q]; simp
   have df := hbo.2.2 q
   have HB := tuck hb
   have HCS' := tuck hcs
   have HN := tuck hN
   have HKQ := tuck hkq
   have hkb : 0 ≤ kq ∧ kq ≤ 4611686018427387904 := by omega
   obtain ⟨hkb0, hkb1⟩ := hkb
   clear hb hcs hbo hkq hN
   go_wp2
   go_roundw
   case rel => exact ⟨q + 1, kq + 1, by omega, by go_num, rfl, by have := HKQ.out; omega, HB.out.setCell (by simp) _, fun _ => ⟨_, block_set HCS'.out q _, by simpa using hcz', fun j hj => by
    by_cases hjq : j = q
    ·subst hjq
     rw [Array.getElem?_setIfInBounds_self_of_lt (by omega)]
     have := HKQ.out
     rw [this]
    ·rw [Array.getElem?_setIfInBounds_ne (by omega)]
     exact HN.out j (by omega)⟩⟩
   case measure => simp [intOf]; omega
  ·have hge2 : ¬ ((q : Int) < (len : Int)) := by omega
   have e : q = len := by omega
   subst e
   have HB := tuck hb
   have HKQ := tuck hkq
   have HCS := tuck hcs
   clear hb hkq hcs
   go_wp2
   exact HF.out _ _ HKQ.out HB.out HCS.out
set_option maxRecDepth 100000 in
theorem heldN_any (len : Nat) (k : Int) (w : World) (v : Value) (hk0 : 0 ≤ k) (hk1 : k + len ≤ 4611686018427387904) (h : Ints w 0 (fun i => k + i) len v) : Calls Tryz.prog 18 #[v, .int .i64 k] w (IntPost' w (k + len)) := by
 obtain ⟨a, cap, b, o, rfl, hp, hc⟩ := h
 have HP := tuck hp
 have HC := tuck hc
 clear hp hc
 have HF : Hid (∀ W kq, kq = k + (len : Int) → Below w.heap.size w W → IntPost' w (k + len) (.returned (.int .i64 kq)) W) := tuck fun W kq e hb => ⟨by rw [e], hb⟩
 generalize IntPost' w (k + len) = post at *
 go_enter Tryz.func18, Tryz.ntmps18
 go_wp2
 go_loopw [5, 1] (fun i kk wr => ∃ (q : Nat) (kq : Int), q ≤ len ∧ i = .int .i64 q ∧ kk = .int .i64 kq ∧ kq = k + q ∧ Below w.heap.size w wr) (fun i _ _ => len - (intOf i).toNat)
 case atStart => exact ⟨0, k, Nat.zero_le _, rfl, rfl, by simp, Below.refl _ _⟩
 case round =>
  obtain ⟨q, kq, hq, rfl, rfl, hkq, hb⟩ := hrel
  by_cases hlt : q < len
  ·have hlti : ((q : Int) < (len : Int)) := by omega
   have hqi : (0 : Int) ≤ (q : Int) := by omega
   obtain ⟨rfl, _, hbw⟩ := HP.out (by omega)
   have c0 := (hb.cell (p := ⟨b, o + q, none⟩) hbw).trans (HC.out q hlt)
   have hkb : 0 ≤ kq ∧ kq ≤ 4611686018427387904 := by omega
   obtain ⟨hkb0, hkb1⟩ := hkb
   have hne : ((k + (q : Int)) != kq) = false := by simp; omega
   have HB := tuck hb
   have HKQ := tuck hkq
   clear hb hkq
   go_wp2
   go_roundw
   case rel => exact ⟨q + 1, kq + 1, by omega, by go_num, rfl, by have := HKQ.out; omega, HB.out⟩
   case measure => simp [intOf]; omega
  ·have hge2 : ¬ ((q : Int) < (len : Int)) := by omega
   have e : q = len := by omega
   subst e
   have HB := tuck hb
   have HKQ := tuck hkq
   clear hb hkq
   go_wp2
   exact HF.out _ _ HKQ.out HB.out
end Go.Proofs.YtpddjebdncaceaaGreat
