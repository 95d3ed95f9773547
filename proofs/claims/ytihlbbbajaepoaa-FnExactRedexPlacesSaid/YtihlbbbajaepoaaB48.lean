/-
  PlAA.
-/
import Derived.Test.YtihlbbbajaepoaaB47
namespace Go.Proofs.Ytihlbbbajaepoaa
open Go.RowKit
set_option maxRecDepth 100000 in
theorem placesOfI_any (t : Tm) (w : World) (v : Value) (h : TmIn w 0 t v) : Calls Try.prog 11 #[v] w (LOwn w (placesP false t)) := by
 have HCF : Hid (∀ (x : Tm) (W : World) (s : Value), x.rootOk → SlIn W 0 x.kids s → Calls Try.prog 39 #[.agg #[.int .i64 x.kind, .int .i64 x.num, s]] W (BoolPost W (!false || decide (x.redex ≠ 0)))) := tuck fun x W s _ _ => by
  have HP : Hid (∀ W', Below W.heap.size W W' → BoolPost W (!false || decide (x.redex ≠ 0)) (.returned (.bool true)) W') := tuck fun W' hb => ⟨by simp, hb⟩
  generalize BoolPost W (!false || decide (x.redex ≠ 0)) = post at *
  go_enter Try.func39, Try.ntmps39
  go_wp2_with fail
  first | exact HP.out _ (Below.refl _ _) | exact HP.out _ (below1 _ _)
 have H := where_any false 39 (enters_of Try.func39 (by kernel_rfl) rfl) HCF t
 obtain ⟨s, rfl, hs⟩ := h
 obtain ⟨a, c, rfl⟩ := hs.form
 have HS := tuck hs
 have HH : Hid (∀ W, Below w.heap.size w W → Calls Try.prog 38 #[.agg #[.int .i64 t.kind, .int .i64 t.num, .slice a t.kids.length c], .func (.func 39) #[] #[]] W (LOwn w (placesP false t))) := tuck fun W hb => (H W _ ⟨_, rfl, HS.out.below hb⟩).mono fun e w' ⟨h1, v, h2, h3⟩ => ⟨bAfter hb h1, v, h2, h3.weak hb.size⟩
 have HP : Hid (∀ e w', LOwn w (placesP false t) e w' → ∃ va n vc, e = .returned (.slice va n vc) ∧ LOwn w (placesP false t) e w') := tuck fun e w' h => by
  obtain ⟨h1, v, rfl, h3⟩ := h
  obtain ⟨va, vc, rfl⟩ := h3.form
  exact ⟨va, _, vc, rfl, h1, _, rfl, h3⟩
 generalize LOwn w (placesP false t) = post at *
 clear H HCF hs
 go_enter Try.func11, Try.ntmps11
 go_wp2_with fail
 refine (HH.out _ (by first | exact Below.refl _ _ | exact below1 _ _)).mono ?_
 rintro e w' hp
 obtain ⟨va, n, vc, rfl, hp⟩ := HP.out _ _ hp
 have HE := tuck hp
 clear hp
 go_wp2_with fail
 exact HE.out
set_option maxRecDepth 100000 in
theorem redexPlacesI_any (t : Tm) (w : World) (v : Value) (h : TmIn w 0 t v) : Calls Try.prog 18 #[v] w (LOwn w (placesP true t)) := by
 have HCF : Hid (∀ (x : Tm) (W : World) (s : Value), x.rootOk → SlIn W 0 x.kids s → Calls Try.prog 43 #[.agg #[.int .i64 x.kind, .int .i64 x.num, s]] W (BoolPost W (!true || decide (x.redex ≠ 0)))) := tuck fun x W s hr hs => by
  obtain ⟨a, c, rfl⟩ := hs.form
  have HRI : Hid (∀ W', Below W.heap.size W W' → Calls Try.prog 44 #[.agg #[.int .i64 x.kind, .int .i64 x.num, .slice a x.kids.length c]] W' (IntPost W' x.redex)) := tuck fun W' hb => redI_any x hr W' _ (hs.below hb)
  have HP : Hid (∀ W' (b : Bool), Below W.heap.size W W' → b = decide (x.redex ≠ 0) → BoolPost W (!true || decide (x.redex ≠ 0)) (.returned (.bool b)) W') := tuck fun W' b hb e => ⟨by rw [e]; simp, hb⟩
  generalize BoolPost W (!true || decide (x.redex ≠ 0)) = post at *
  clear hs hr
  go_enter Try.func43, Try.ntmps43
  go_wp2_with fail
  refine (HRI.out _ (below1 _ _)).mono ?_
  rintro e w' ⟨rfl, hb'⟩
  have HB := tuck (bAfter (below1 _ _) hb')
  clear hb'
  go_wp2_with fail
  exact HP.out _ _ HB.out (by by_cases h : x.redex = 0 <;> simp [h])
 have H := where_any true 43 (enters_of Try.func43 (by kernel_rfl) rfl) HCF t
 obtain ⟨s, rfl, hs⟩ := h
 obtain ⟨a, c, rfl⟩ := hs.form
 have HS := tuck hs
 have HH : Hid (∀ W, Below w.heap.size w W → Calls Try.prog 38 #[.agg #[.int .i64 t.kind, .int .i64 t.num, .slice a t.kids.length c], .func (.func 43) #[] #[]] W (LOwn w (placesP true t))) := tuck fun W hb => (H W _ ⟨_, rfl, HS.out.below hb⟩).mono fun e w' ⟨h1, v, h2, h3⟩ => ⟨bAfter hb h1, v, h2, h3.weak hb.size⟩
 have HP : Hid (∀ e w', LOwn w (placesP true t) e w' → ∃ va n vc, e = .returned (.slice va n vc) ∧ LOwn w (placesP true t) e w') := tuck fun e w' h => by
  obtain ⟨h1, v, rfl, h3⟩ := h
  obtain ⟨va, vc, rfl⟩ := h3.form
  exact ⟨va, _, vc, rfl, h1, _, rfl, h3⟩
 generalize LOwn w (placesP true t) = post at *
 clear H HCF hs
 go_enter Try.func18, Try.ntmps18
 go_wp2_with fail
 refine (HH.out _ (by first | exact Below.refl _ _ | exact below1 _ _)).mono ?_
 rintro e w' hp
 obtain ⟨va, n, vc, rfl, hp⟩ := HP.out _ _ hp
 have HE := tuck hp
 clear hp
 go_wp2_with fail
 exact HE.out
end Go.Proofs.Ytihlbbbajaepoaa
