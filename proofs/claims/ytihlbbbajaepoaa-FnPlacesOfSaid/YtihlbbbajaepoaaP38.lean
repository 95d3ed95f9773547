/-
  PlAA, PlAB, PlAC.
-/
import Derived.Test.YtihlbbbajaepoaaP36
import Derived.Test.YtihlbbbajaepoaaP37
namespace Go.Proofs.Ytihlbbbajaepoaa
open Go.RowKit
set_option maxRecDepth 100000 in
theorem placesOfI_any (t : Tm) (w : World) (v : Value) (h : TmIn w 0 t v) : Calls Try.prog 11 #[v] w (LOwn w (placesP false t)) := by
 have HCF : Hid (∀ (x : Tm) (W : World) (s : Value), x.rootOk → SlIn W 0 x.kids s → Calls Try.prog 39 #[.agg #[.int .i64 x.kind, .int .i64 x.num, s]] W (BoolPost W (!false || decide (x.redex ≠ 0)))) := tuck fun x W s _ _ => by
  have HP : Hid (∀ W', Below W.heap.size W W' → BoolPost W (!false || decide (x.redex ≠ 0)) (.returned (.bool true)) W') := tuck fun W' hb => ⟨by simp, hb⟩
  generalize BoolPost W (!false || decide (x.redex ≠ 0)) = post at *
  go_enter Try.func39, Try.ntmps39
  go_wp2_with fail
  first | exact HP.out _ (Below.refl _ _) | exact HP.out _ (below1 _ _)
 have H := where_any false 39 (enters_of Try.func39 (by kernel_rfl) rfl) HCF t
 obtain ⟨s, rfl, hs⟩ := h
 obtain ⟨a, c, rfl⟩ := hs.form
 have HS := tuck hs
 have HH : Hid (∀ W, Below w.heap.size w W → Calls Try.prog 38 #[.agg #[.int .i64 t.kind, .int .i64 t.num, .slice a t.kids.length c], .func (.func 39) #[] #[]] W (LOwn w (placesP false t))) := tuck fun W hb => (H W _ ⟨_, rfl, HS.out.below hb⟩).mono fun e w' ⟨h1, v, h2, h3⟩ => ⟨bAfter hb h1, v, h2, h3.weak hb.size⟩
 have HP : Hid (∀ e w', LOwn w (placesP false t) e w' → ∃ va n vc, e = .returned (.slice va n vc) ∧ LOwn w (placesP false t) e w') := tuck fun e w' h => by
  obtain ⟨h1, v, rfl, h3⟩ := h
  obtain ⟨va, vc, rfl⟩ := h3.form
  exact ⟨va, _, vc, rfl, h1, _, rfl, h3⟩
 generalize LOwn w (placesP false t) = post at *
 clear H HCF hs
 go_enter Try.func11, Try.ntmps11
 go_wp2_with fail
 refine (HH.out _ (by first | exact Below.refl _ _ | exact below1 _ _)).mono ?_
 rintro e w' hp
 obtain ⟨va, n, vc, rfl, hp⟩ := HP.out _ _ hp
 have HE := tuck hp
 clear hp
 go_wp2_with fail
 exact HE.out
end Go.Proofs.Ytihlbbbajaepoaa
namespace Go.Proofs.Ytihlbbbajaepoaa
open Go.RowKit
def tot : List ((Int → Int) × Nat) → Nat
 | [] => 0
 | (_, n) :: L => n + tot L
theorem tot_bound (m : Nat) : ∀ (L : List ((Int → Int) × Nat)), (∀ x ∈ L, x.2 ≤ m) → tot L ≤ L.length * m
 | [], _ => by simp [tot]
 | (N, n) :: L, h => by
  have h1 := tot_bound m L (fun x hx => h x (List.mem_cons_of_mem _ hx))
  have h2 : n ≤ m := h (N, n) (by simp)
  rw [tot, List.length_cons, Nat.add_mul]
  omega
theorem RowP.get {base : Nat} {L : List ((Int → Int) × Nat)} {v : Value} {w : World} (h : RowP base L v w) : ∃ a cap g, v = .slice a L.length cap ∧ ∀ j (hj : j < L.length), a = some ⟨g, 0, none⟩ ∧ base ≤ g ∧ g < w.heap.size ∧ ∃ ua uc, w.cell? ⟨g, j, none⟩ = some (.slice ua L[j].2 uc) ∧ IsX w (fun i => g = i ∨ i < base) L[j].1 L[j].2 (.slice ua L[j].2 uc) ∧ Sm (.slice ua L[j].2 uc) := by
 obtain ⟨vs, h1, h2, h3⟩ := h
 have hrow := h2
 rcases h2.2 with ⟨rfl, h0⟩ | ⟨g, cap, cur, rfl, hb, hg, -⟩
 ·exact ⟨none, 0, 0, by rw [h0], fun j hj => absurd hj (by omega)⟩
 ·refine ⟨_, cap, g, rfl, fun j hj => ⟨rfl, hb, (block_of_cells hg).1, ?_⟩⟩
  obtain ⟨u, k1, k2, k3⟩ := h3 j hj
  obtain ⟨ua, uc, rfl⟩ := k2.form
  have hc := hrow.cells (g := g) rfl j _ k1
  have hadd : (⟨g, 0, none⟩ : Addr).add j = ⟨g, j, none⟩ := by unfold Addr.add; split <;> simp_all
  rw [hadd] at hc
  refine ⟨ua, uc, hc, k2.to fun b hx hbw => ⟨fun e => hx (e.imp (fun e => by rw [e]; rfl) id), hbw, fun _ => rfl⟩, k3⟩
end Go.Proofs.Ytihlbbbajaepoaa
namespace Go.Proofs.Ytihlbbbajaepoaa
open Go.RowKit
theorem placesP_small (rd : Bool) (t : Tm) : tot (placesP rd t) ≤ 1000000 ∧ (placesP rd t).length ≤ 1048576 ∧ ∀ x ∈ placesP rd t, x.2 ≤ 1048576 := by
 unfold placesP
 by_cases hv : t.Valid
 ·rw [if_pos hv]
  have hx : ∀ x ∈ plcOf rd (t.nodesFrom []), x.2 ≤ 1000 := fun x hx => by
   simp only [plcOf, List.mem_map, List.mem_filter] at hx
   obtain ⟨y, ⟨hy, -⟩, rfl⟩ := hx
   have := (hv.nodes y hy).short hv
   show y.1.length ≤ 1000
   omega
  have hl : (plcOf rd (t.nodesFrom [])).length ≤ 400 := by
   unfold plcOf
   rw [List.length_map]
   refine Nat.le_trans (List.length_filter_le _ _) ?_
   rw [t.nodes_len []]
   have := (valid_bounds hv).1
   have := t.size_eq
   omega
  refine ⟨Nat.le_trans (tot_bound 1000 _ hx) (Nat.le_trans (Nat.mul_le_mul_right _ hl) (by decide)), Nat.le_trans hl (by decide), fun x h => Nat.le_trans (hx x h) (by decide)⟩
 ·rw [if_neg hv]
  exact ⟨by simp [tot], by simp, fun x h => by cases h⟩
theorem placesP_len (rd : Bool) (t : Tm) : (placesP rd t).length ≤ 1000 := by
 unfold placesP
 by_cases hv : t.Valid
 ·rw [if_pos hv]
  unfold plcOf
  rw [List.length_map]
  refine Nat.le_trans (List.length_filter_le _ _) ?_
  rw [t.nodes_len []]
  have := (valid_bounds hv).1
  have := t.size_eq
  omega
 ·rw [if_neg hv]
  simp
end Go.Proofs.Ytihlbbbajaepoaa
