/-
  PlAC, VarsP.
-/
import Derived.Test.YtihlbbbajaepoaaGreatR02
import Derived.Test.YtihlbbbajaepoaaGreatR04
import Derived.Test.YtihlbbbajaepoaaGreatR07
import Derived.Test.YtihlbbbajaepoaaGreatR08
import Derived.Test.YtihlbbbajaepoaaGreatR11
import Derived.Test.YtihlbbbajaepoaaGreatR12
import Derived.Test.YtihlbbbajaepoaaGreatR14
import Derived.Test.YtihlbbbajaepoaaGreatR16
import Derived.Test.YtihlbbbajaepoaaGreatR22
import Derived.Test.YtihlbbbajaepoaaGreatR23
import Derived.Test.YtihlbbbajaepoaaGreatR26
import Derived.Test.YtihlbbbajaepoaaGreatR27
import Derived.Test.YtihlbbbajaepoaaGreatR28
import Derived.Test.YtihlbbbajaepoaaGreatR37
import Derived.Test.YtihlbbbajaepoaaGreatR38
import Derived.ChangeAlike
import Derived.ControlIn
import Derived.IntWalk
import Derived.OrdersIn
import Derived.RangeFuncCalls
import Derived.RegionTactic
namespace Go.Proofs.YtihlbbbajaepoaaGreat
open Go.RowKit
theorem TlRes.pair8 {w w' : World} {P : Prop} {T : Tm} {e : Ending} (h : TlRes w P T e w') : PairPost w (orZero P T) (tr P) e w' := by
 obtain ⟨hb, a, c, rfl, hs⟩ := h
 exact ⟨hb, _, rfl, _, rfl, hs.mono (Nat.zero_le _)⟩
theorem termAtI_p {t : Tm} {N : Int → Int} {len : Nat} (hlen : len ≤ 1048576) (w : World) (v tv : Value) (hl : Ints w 0 N len v) (ht : TmIn w 0 t tv) : Calls Tryz.prog 23 #[tv, v] w (PairPost w (orZero (IsPlace t N len) (wayT t N len)) (tr (IsPlace t N len))) := (termAtI_any t N len hlen w tv v ht hl).mono fun _ _ h => h.pair
end Go.Proofs.YtihlbbbajaepoaaGreat
namespace Go.Proofs.YtihlbbbajaepoaaGreat
open Go.RowKit
theorem placesP_small (rd : Bool) (t : Tm) : tot (placesP rd t) ≤ 1000000 ∧ (placesP rd t).length ≤ 1048576 ∧ ∀ x ∈ placesP rd t, x.2 ≤ 1048576 := by
 unfold placesP
 by_cases hv : t.Valid
 ·rw [if_pos hv]
  have hx : ∀ x ∈ plcOf rd (t.nodesFrom []), x.2 ≤ 1000 := fun x hx => by
   simp only [plcOf, List.mem_map, List.mem_filter] at hx
   obtain ⟨y, ⟨hy, -⟩, rfl⟩ := hx
   have := (hv.nodes y hy).short hv
   show y.1.length ≤ 1000
   omega
  have hl : (plcOf rd (t.nodesFrom [])).length ≤ 400 := by
   unfold plcOf
   rw [List.length_map]
   refine Nat.le_trans (List.length_filter_le _ _) ?_
   rw [t.nodes_len []]
   have := (valid_bounds hv).1
   have := t.size_eq
   omega
  refine ⟨Nat.le_trans (tot_bound 1000 _ hx) (Nat.le_trans (Nat.mul_le_mul_right _ hl) (by decide)), Nat.le_trans hl (by decide), fun x h => Nat.le_trans (hx x h) (by decide)⟩
 ·rw [if_neg hv]
  exact ⟨by simp [tot], by simp, fun x h => by cases h⟩
theorem placesP_len (rd : Bool) (t : Tm) : (placesP rd t).length ≤ 1000 := by
 unfold placesP
 by_cases hv : t.Valid
 ·rw [if_pos hv]
  unfold plcOf
  rw [List.length_map]
  refine Nat.le_trans (List.length_filter_le _ _) ?_
  rw [t.nodes_len []]
  have := (valid_bounds hv).1
  have := t.size_eq
  omega
 ·rw [if_neg hv]
  simp
end Go.Proofs.YtihlbbbajaepoaaGreat
