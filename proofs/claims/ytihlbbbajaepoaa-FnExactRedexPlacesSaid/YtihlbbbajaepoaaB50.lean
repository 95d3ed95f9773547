/-
  PlAC.
-/
import Derived.Test.YtihlbbbajaepoaaB48
import Derived.Test.YtihlbbbajaepoaaB49
namespace Go.Proofs.Ytihlbbbajaepoaa
open Go.RowKit
theorem placesP_small (rd : Bool) (t : Tm) : tot (placesP rd t) ≤ 1000000 ∧ (placesP rd t).length ≤ 1048576 ∧ ∀ x ∈ placesP rd t, x.2 ≤ 1048576 := by
 unfold placesP
 by_cases hv : t.Valid
 ·rw [if_pos hv]
  have hx : ∀ x ∈ plcOf rd (t.nodesFrom []), x.2 ≤ 1000 := fun x hx => by
   simp only [plcOf, List.mem_map, List.mem_filter] at hx
   obtain ⟨y, ⟨hy, -⟩, rfl⟩ := hx
   have := (hv.nodes y hy).short hv
   show y.1.length ≤ 1000
   omega
  have hl : (plcOf rd (t.nodesFrom [])).length ≤ 400 := by
   unfold plcOf
   rw [List.length_map]
   refine Nat.le_trans (List.length_filter_le _ _) ?_
   rw [t.nodes_len []]
   have := (valid_bounds hv).1
   have := t.size_eq
   omega
  refine ⟨Nat.le_trans (tot_bound 1000 _ hx) (Nat.le_trans (Nat.mul_le_mul_right _ hl) (by decide)), Nat.le_trans hl (by decide), fun x h => Nat.le_trans (hx x h) (by decide)⟩
 ·rw [if_neg hv]
  exact ⟨by simp [tot], by simp, fun x h => by cases h⟩
theorem LPost.law {w w' : World} {L : List ((Int → Int) × Nat)} {e : Ending} (h : LPost w L e w') : Below w.heap.size w w' ∧ ∃ a c, e = .returned (.slice a L.length c) ∧ RowP w.heap.size L (.slice a L.length c) w' := by
 obtain ⟨h1, v, rfl, h2⟩ := h
 obtain ⟨a, c, rfl⟩ := h2.form
 exact ⟨h1, a, c, rfl, h2⟩
theorem LOwn.law {w w' : World} {L : List ((Int → Int) × Nat)} {e : Ending} (h : LOwn w L e w') : Below w.heap.size w w' ∧ ∃ a c, e = .returned (.slice a L.length c) ∧ RowQ (fun _ => False) w.heap.size L (.slice a L.length c) w' := by
 obtain ⟨h1, v, rfl, h2⟩ := h
 obtain ⟨a, c, rfl⟩ := h2.form
 exact ⟨h1, a, c, rfl, h2⟩
theorem RowQ.but {F : List Nat} {base : Nat} {L : List ((Int → Int) × Nat)} {v : Value} {A B : World} (h : RowQ (fun _ => False) base L v A) (hb : But F A B) (hF : ∀ g ∈ F, g < base) : RowQ (fun _ => False) base L v B := by
 obtain ⟨vs, bs, h1, h0, h2, h3, hn, h4, h5⟩ := h
 have hk : ∀ b, base ≤ b → b < A.heap.size → B.heap[b]? = A.heap[b]? := fun b hbb hlt => hb.block b hlt fun hm => by
  have := hF b hm
  omega
 refine ⟨vs, bs, h1, h0, ⟨h2.1, ?_⟩, h3, hn, h4, fun j hj => ?_⟩
 ·rcases h2.2 with hn | ⟨g, cap, cur, rfl, hb', hgg, rest⟩
  ·exact Or.inl hn
  ·exact Or.inr ⟨g, cap, cur, rfl, hb', (hk g hb' (block_of_cells hgg).1).trans hgg, rest⟩
 ·obtain ⟨u, b, k1, k2, k3⟩ := h5 j hj
  exact ⟨u, b, k1, k2, k3.of_block (hk b (h4 b (List.mem_of_getElem? k2)).1 k3.lt)⟩
end Go.Proofs.Ytihlbbbajaepoaa
