/-
  PlAA, PlAC, Pth.
-/
import Derived.Test.YtpddjebdncaceaaGreatR11
import Derived.Test.YtpddjebdncaceaaGreatR14
import Derived.Test.YtpddjebdncaceaaGreatR18
import Derived.Test.YtpddjebdncaceaaGreatR25
import Derived.Test.YtpddjebdncaceaaGreatR26
import Derived.Test.YtpddjebdncaceaaGreatR27
import Derived.Test.YtpddjebdncaceaaGreatR33
import Derived.Test.YtpddjebdncaceaaGreatR34
import Derived.Test.YtpddjebdncaceaaGreatR37
import Derived.Test.YtpddjebdncaceaaGreatR38
import Derived.Test.YtpddjebdncaceaaGreatR48
import Derived.BigQuiet
import Derived.Deep.DeepCutAuto
import Derived.Deep.QuietTactic
namespace Go.Proofs.YtpddjebdncaceaaGreat
open Go.RowKit
set_option maxRecDepth 100000 in
theorem redexPlacesI_any (t : Tm) (w : World) (v : Value) (h : TmIn w 0 t v) : Calls Tryz.prog 26 #[v] w (LOwn w (placesP true t)) := by
 have HCF : Hid (∀ (x : Tm) (W : World) (s : Value), x.rootOk → SlIn W 0 x.kids s → Calls Tryz.prog 60 #[.agg #[.int .i64 x.kind, .int .i64 x.num, s]] W (BoolPost W (!true || decide (x.redex ≠ 0)))) := tuck fun x W s hr hs => by
  obtain ⟨a, c, rfl⟩ := hs.form
  have HRI : Hid (∀ W', Below W.heap.size W W' → Calls Tryz.prog 61 #[.agg #[.int .i64 x.kind, .int .i64 x.num, .slice a x.kids.length c]] W' (IntPost W' x.redex)) := tuck fun W' hb => redI_any x hr W' _ (hs.below hb)
  have HP : Hid (∀ W' (b : Bool), Below W.heap.size W W' → b = decide (x.redex ≠ 0) → BoolPost W (!true || decide (x.redex ≠ 0)) (.returned (.bool b)) W') := tuck fun W' b hb e => ⟨by rw [e]; simp, hb⟩
  generalize BoolPost W (!true || decide (x.redex ≠ 0)) = post at *
  clear hs hr
  go_enter Tryz.func60, Tryz.ntmps60
  go_wp2_with fail
  refine (HRI.out _ (below1 _ _)).mono ?_
  rintro e w' ⟨rfl, hb'⟩
  have HB := tuck (bAfter (below1 _ _) hb')
  clear hb'
  go_wp2_with fail
  exact HP.out _ _ HB.out (by by_cases h : x.redex = 0 <;> simp [h])
 have H := where_any true 60 (enters_of Tryz.func60 (by kernel_rfl) rfl) HCF t
 obtain ⟨s, rfl, hs⟩ := h
 obtain ⟨a, c, rfl⟩ := hs.form
 have HS := tuck hs
 have HH : Hid (∀ W, Below w.heap.size w W → Calls Tryz.prog 59 #[.agg #[.int .i64 t.kind, .int .i64 t.num, .slice a t.kids.length c], .func (.func 60) #[] #[]] W (LOwn w (placesP true t))) := tuck fun W hb => (H W _ ⟨_, rfl, HS.out.below hb⟩).mono fun e w' ⟨h1, v, h2, h3⟩ => ⟨bAfter hb h1, v, h2, h3.weak hb.size⟩
 have HP : Hid (∀ e w', LOwn w (placesP true t) e w' → ∃ va n vc, e = .returned (.slice va n vc) ∧ LOwn w (placesP true t) e w') := tuck fun e w' h => by
  obtain ⟨h1, v, rfl, h3⟩ := h
  obtain ⟨va, vc, rfl⟩ := h3.form
  exact ⟨va, _, vc, rfl, h1, _, rfl, h3⟩
 generalize LOwn w (placesP true t) = post at *
 clear H HCF hs
 go_enter Tryz.func26, Tryz.ntmps26
 go_wp2_with fail
 refine (HH.out _ (by first | exact Below.refl _ _ | exact below1 _ _)).mono ?_
 rintro e w' hp
 obtain ⟨va, n, vc, rfl, hp⟩ := HP.out _ _ hp
 have HE := tuck hp
 clear hp
 go_wp2_with fail
 exact HE.out
end Go.Proofs.YtpddjebdncaceaaGreat
namespace Go.Proofs.YtpddjebdncaceaaGreat
open Go.RowKit
theorem placesP_small (rd : Bool) (t : Tm) : tot (placesP rd t) ≤ 1000000 ∧ (placesP rd t).length ≤ 1048576 ∧ ∀ x ∈ placesP rd t, x.2 ≤ 1048576 := by
 unfold placesP
 by_cases hv : t.Valid
 ·rw [if_pos hv]
  have hx : ∀ x ∈ plcOf rd (t.nodesFrom []), x.2 ≤ 1000 := fun x hx => by
   simp only [plcOf, List.mem_map, List.mem_filter] at hx
   obtain ⟨y, ⟨hy, -⟩, rfl⟩ := hx
   have := (hv.nodes y hy).short hv
   show y.1.length ≤ 1000
   omega
  have hl : (plcOf rd (t.nodesFrom [])).length ≤ 400 := by
   unfold plcOf
   rw [List.length_map]
   refine Nat.le_trans (List.length_filter_le _ _) ?_
   rw [t.nodes_len []]
   have := (valid_bounds hv).1
   have := t.size_eq
   omega
  refine ⟨Nat.le_trans (tot_bound 1000 _ hx) (Nat.le_trans (Nat.mul_le_mul_right _ hl) (by decide)), Nat.le_trans hl (by decide), fun x h => Nat.le_trans (hx x h) (by decide)⟩
 ·rw [if_neg hv]
  exact ⟨by simp [tot], by simp, fun x h => by cases h⟩
theorem placesP_len (rd : Bool) (t : Tm) : (placesP rd t).length ≤ 1000 := by
 unfold placesP
 by_cases hv : t.Valid
 ·rw [if_pos hv]
  unfold plcOf
  rw [List.length_map]
  refine Nat.le_trans (List.length_filter_le _ _) ?_
  rw [t.nodes_len []]
  have := (valid_bounds hv).1
  have := t.size_eq
  omega
 ·rw [if_neg hv]
  simp
end Go.Proofs.YtpddjebdncaceaaGreat
namespace Go.Proofs.YtpddjebdncaceaaGreat
open Go.RowKit
theorem RowP.at {base c n : Nat} {L : List ((Int → Int) × Nat)} {a : Option Addr} {w : World} (h : RowP base L (.slice a n c) w) {j : Nat} (hj : j < L.length) : ∃ g, (a = some ⟨g, 0, none⟩ ∧ g < w.heap.size) ∧ base ≤ g ∧ ∃ ua uc, w.cell? ⟨g, j, none⟩ = some (.slice ua L[j].2 uc) ∧ IsX w (fun i => g = i ∨ i < base) L[j].1 L[j].2 (.slice ua L[j].2 uc) ∧ Sm (.slice ua L[j].2 uc) := by
 obtain ⟨a', cap, g, e, h⟩ := h.get
 injection e with e1 e2 e3
 subst e1
 obtain ⟨k1, k2, k3, k4⟩ := h j hj
 exact ⟨g, ⟨k1, k3⟩, k2, k4⟩
end Go.Proofs.YtpddjebdncaceaaGreat
