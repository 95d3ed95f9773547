/-
  impl.ruleOf, impl.contract: the contractum of a redex.
-/
import Derived.Test.YthmcgpppacodeaaContrA
import Derived.Test.YthmcgpppacodeaaContrB
namespace Go.Proofs.Ythmcgpppacodeaa
open Go.RowKit

/-- The part of a term to which a way leads. -/
def descend : Tm → List Nat → Tm
  | t, [] => t
  | t, i :: p => descend (kidT t i) p
def WayOk : Tm → List Nat → Prop
  | _, [] => True
  | t, i :: p => i < t.kids.length ∧ WayOk (kidT t i) p

/-- What a rule's contractum leaves: a part. -/
def PartPost (X : Nat → Prop) (w : World) (T : Tm) (e : Ending) (w' : World) : Prop :=
  Below w.heap.size w w' ∧ ∃ s, e = .returned (.tuple #[.agg #[.int .i64 T.kind, .int .i64 T.num, s], .bool true]) ∧ SlX w' X T.kids s

set_option maxRecDepth 100000 in
theorem part_any (p : List Nat) (t : Tm) (hok : WayOk t p) (hp : p.length ≤ 10) (w : World) (X : Nat → Prop) (s : Value) (hs : SlX w X t.kids s) (g cap : Nat) (hc : ∀ j (hj : j < p.length), w.cell? ⟨g, j, none⟩ = some (.int .i64 (p[j] : Int))) (hi : ∀ j (hj : j < p.length), p[j] ≤ 10) (hg : p ≠ [] → g < w.heap.size) :
    Calls Try.prog 135 #[.slice (some ⟨g, 0, none⟩) p.length cap, .agg #[.int .i64 t.kind, .int .i64 t.num, s]] w (PartPost X w (descend t p)) := by
  obtain ⟨a, c, rfl⟩ := hs.form
  have HPOST : Hid (∀ (T : Tm) (s : Value) w', T = descend t p → SlX w X T.kids s → Below w.heap.size w w' → PartPost X w (descend t p) (.returned (.tuple #[.agg #[.int .i64 T.kind, .int .i64 T.num, s], .bool true])) w') := tuck fun T s w' h h1 h2 => by
    subst h
    exact ⟨h2, s, rfl, h1.below h2⟩
  generalize PartPost X w (descend t p) = post at *
  have HS := tuck hs
  have HOK := tuck hok
  have HC := tuck hc
  have HI := tuck hi
  have HG := tuck hg
  clear hs hok hc hi hg
  go_enter Try.func135, Try.ntmps135
  go_wp2_with fail
  have HB0 := tuck (below2 w (.cells #[.int .i64 t.kind, .int .i64 t.num, .slice a t.kids.length c] 28) (.cells #[.int .i64 0, .int .i64 0, .slice none 0 0] 28))
  have HV0 := tuck ((VarAt.new w t.kind t.num (.slice a t.kids.length c)).below (below1 _ (.cells #[.int .i64 0, .int .i64 0, .slice none 0 0] 28)))
  have HV1 := tuck (var_new1 w (.cells #[.int .i64 t.kind, .int .i64 t.num, .slice a t.kids.length c] 28) 0 0 (.slice none 0 0))
  generalize (w.alloc (.cells #[.int .i64 t.kind, .int .i64 t.num, .slice a t.kids.length c] 28)).alloc (.cells #[.int .i64 0, .int .i64 0, .slice none 0 0] 28) = W0 at *
  go_loopw [10] (fun i wr => ∃ (q : Nat) (T : Tm) (sT : Value), q ≤ p.length ∧ i = .int .i64 q ∧ Below w.heap.size w wr ∧ VarAt w.heap.size T.kind T.num sT wr ∧ VarAt (w.heap.size + 1) 0 0 (.slice none 0 0) wr ∧ SlX w X T.kids sT ∧ WayOk T (p.drop q) ∧ descend T (p.drop q) = descend t p) (fun i _ => p.length - (intOf i).toNat)
  case atStart => exact ⟨0, t, _, Nat.zero_le _, rfl, HB0.out, HV0.out, HV1.out, HS.out, HOK.out, rfl⟩
  case round =>
    obtain ⟨q, T, sT, hq, rfl, hb, hv, hv1, hsT, hway, hdes⟩ := hrel
    obtain ⟨aT, cT, b, o, rfl, hlT, hpT, hcT⟩ := hsT.open
    have HB := tuck hb
    have HV := tuck hv
    have HVZ := tuck hv1
    have HST := tuck hsT
    have HWAY := tuck hway
    have HDES := tuck hdes
    have HCT := tuck hcT
    have HPT := tuck hpT
    clear hb hv hv1 hsT hway hdes hcT hpT
    obtain ⟨z0, a0, a1, a2, af⟩ := HV.out.facts
    by_cases hlt : q < p.length
    · have hlti : ((q : Int) < (p.length : Int)) := by omega
      have hw := HWAY.out
      have hd := HDES.out
      rw [List.drop_eq_getElem_cons hlt, WayOk] at hw
      rw [List.drop_eq_getElem_cons hlt, descend] at hd
      have hpc := HC.out q hlt
      have hgb := HG.out (by intro e; rw [e] at hlt; simp at hlt)
      have hic := HI.out q hlt
      have hpr := (HB.out.cell (p := ⟨g, q, none⟩) hgb).trans hpc
      have hx := hw.1
      rw [kidT_eq hx] at hw hd
      obtain ⟨-, hw2⟩ := hw
      have HW2 := tuck hw2
      have HD2 := tuck hd
      clear hw2 hd hpc
      obtain ⟨rfl, -, hbw⟩ := HPT.out (by intro e; rw [e] at hx; simp at hx)
      obtain ⟨sv, c0, c1, c2, hsv⟩ := HCT.out _ hx
      obtain ⟨sa, sc, rfl⟩ := hsv.form
      replace c0 := (HB.out.cell (p := ⟨b, o + p[q] * 3, none⟩) hbw).trans c0
      replace c1 := (HB.out.cell (p := ⟨b, o + p[q] * 3 + 1, none⟩) hbw).trans c1
      replace c2 := (HB.out.cell (p := ⟨b, o + p[q] * 3 + 2, none⟩) hbw).trans c2
      have hxi : ((p[q] : Nat) : Int) < (T.kids.length : Int) := by omega
      have HSV := tuck hsv
      clear hsv HCT HPT HWAY
      generalize hy : T.kids[p[q]] = Y at *
      generalize p[q] = x at *
      clear hy
      go_wp2_with fail
      go_roundw
      case rel => exact ⟨q + 1, Y, .slice sa Y.kids.length sc, by omega, by go_num, bSet3 HB.out (Nat.le_refl _) _ _ _ _ _ _, HV.out.set, HVZ.out.far3 (by omega) _ _ _ _ _ _, HSV.out, HW2.out, HD2.out⟩
      case measure => simp [intOf]; omega
    · have hge2 : ¬ ((q : Int) < (p.length : Int)) := by omega
      have hT : T = descend t p := by rw [← HDES.out, List.drop_eq_nil_of_le (by omega)]; rfl
      obtain ⟨z1, b0, b1, b2, bf⟩ := HVZ.out.facts
      go_wp2_with fail
      refine bodyPost_ret (v := .tuple #[.agg #[.int .i64 T.kind, .int .i64 T.num, .slice aT T.kids.length cT], .bool true]) (by simp [results, Try.results135, go_sem, *]) rfl (HPOST.out T _ _ hT HST.out ?_)
      exact bSet3 HB.out (Nat.le_succ _) _ _ _ _ _ _

end Go.Proofs.Ythmcgpppacodeaa
