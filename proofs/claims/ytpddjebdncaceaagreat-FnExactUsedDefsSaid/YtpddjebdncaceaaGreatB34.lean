/-
  DuB.
-/
import Derived.Test.YtpddjebdncaceaaGreatB33
namespace Go.Proofs.YtpddjebdncaceaaGreat
open Go.RowKit
set_option linter.unusedVariables false
set_option linter.unusedSimpArgs false
def SBox (g : Nat) (k n : Int) (s : Value) (d : Int) (w : World) : Prop := w.heap[g]? = some (.cells #[.int .i64 k, .int .i64 n, s, .int .i64 d] 100 (0, 0))
theorem SBox.facts {g : Nat} {k n d : Int} {s : Value} {w : World} (h : SBox g k n s d w) : g < w.heap.size ∧ w.cell? ⟨g, 0, none⟩ = some (.int .i64 k) ∧ w.cell? ⟨g, 1, none⟩ = some (.int .i64 n) ∧ w.cell? ⟨g, 2, none⟩ = some s ∧ w.cell? ⟨g, 3, none⟩ = some (.int .i64 d) ∧ ∀ i, w.frozen? ⟨g, i, none⟩ = false := by
 obtain ⟨h1, h2, h3⟩ := block_of_cells h
 exact ⟨h1, h2 0, h2 1, h2 2, h2 3, h3⟩
theorem SBox.new (w : World) (k n : Int) (s : Value) (d : Int) : SBox w.heap.size k n s d (w.alloc (.cells #[.int .i64 k, .int .i64 n, s, .int .i64 d] 100)) := heap_new _ _
noncomputable def scUse (i : Int) (x : Tm × Nat) : Bool := countOf x.1 ((x.2 : Int) - 1 - i) != 0
set_option maxRecDepth 100000 in
theorem scUses_any (t : Tm) (d : Nat) (i : Int) (hd : d ≤ 8) (hi0 : 0 ≤ i) (hi : i ≤ 8) (w : World) (s : Value) (hs : SlIn w 0 t.kids s) : Calls Tryz.prog 73 #[.agg #[.int .i64 t.kind, .int .i64 t.num, s, .int .i64 d], .int .i64 i] w (BoolPost w (scUse i (t, d))) := by
 obtain ⟨a, c, rfl⟩ := hs.form
 have hb0 := below1 w (.cells #[.int .i64 t.kind, .int .i64 t.num, .slice a t.kids.length c, .int .i64 d] 100)
 obtain ⟨z, c0, c1, c2, c3, cf⟩ := (SBox.new w t.kind t.num (.slice a t.kids.length c) d).facts
 have HS := tuck (hs.below hb0)
 have HB := tuck hb0
 have HF : Hid (∀ W, SlIn W 0 t.kids (.slice a t.kids.length c) → Calls Tryz.prog 106 #[.agg #[.int .i64 t.kind, .int .i64 t.num, .slice a t.kids.length c], .int .i64 ((d : Int) - 1 - i)] W (BoolPost W (scUse i (t, d)))) := tuck fun W h => freeAtI_any t _ W _ ⟨_, rfl, h⟩
 have hw1 : IntKind.i64.wrap ((d : Int) - 1) = (d : Int) - 1 := IntWalk.i64_in _ (by omega)
 have hw2 : IntKind.i64.wrap ((d : Int) - 1 - i) = (d : Int) - 1 - i := IntWalk.i64_in _ (by omega)
 have HP : Hid (∀ W, Below w.heap.size w W → BoolPost w (scUse i (t, d)) (.returned (.bool (scUse i (t, d)))) W) := tuck fun W hb => ⟨rfl, hb⟩
 generalize BoolPost w (scUse i (t, d)) = post at *
 clear hs hb0
 go_enter Tryz.func73, Tryz.ntmps73
 go_wp2_with fail
 refine (HF.out _ HS.out).mono ?_
 rintro e w1 ⟨rfl, hb1⟩
 replace HB := tuck (bAfter HB.out hb1)
 clear hb1 c0 c1 c2 c3 cf
 go_wp2_with fail
 first
  | exact HP.out _ HB.out
  | (go_ret; exact HP.out _ HB.out)
set_option maxRecDepth 100000 in
theorem scUsesF_any (t : Tm) (d : Nat) (i : Int) (g : Nat) (hd : d ≤ 8) (hi0 : 0 ≤ i) (hi : i ≤ 8) (w : World) (s : Value) (hs : SlIn w 0 t.kids s) (hg : g < w.heap.size) (hc : w.cell? ⟨g, 0, none⟩ = some (.int .i64 i)) : Calls Tryz.prog 72 #[.agg #[.int .i64 t.kind, .int .i64 t.num, s, .int .i64 d], .pointer (some ⟨g, 0, none⟩)] w (BoolPost w (scUse i (t, d))) := by
 obtain ⟨a, c, rfl⟩ := hs.form
 have hb0 := below1 w (.cells #[.int .i64 t.kind, .int .i64 t.num, .slice a t.kids.length c, .int .i64 d] 100)
 obtain ⟨z, c0, c1, c2, c3, cf⟩ := (SBox.new w t.kind t.num (.slice a t.kids.length c) d).facts
 have hcg := (hb0.cell (p := ⟨g, 0, none⟩) hg).trans hc
 have HS := tuck (hs.below hb0)
 have HB := tuck hb0
 have HF : Hid (∀ W, SlIn W 0 t.kids (.slice a t.kids.length c) → Calls Tryz.prog 73 #[.agg #[.int .i64 t.kind, .int .i64 t.num, .slice a t.kids.length c, .int .i64 d], .int .i64 i] W (BoolPost W (scUse i (t, d)))) := tuck fun W h => scUses_any t d i hd hi0 hi W _ h
 have HP : Hid (∀ W, Below w.heap.size w W → BoolPost w (scUse i (t, d)) (.returned (.bool (scUse i (t, d)))) W) := tuck fun W hb => ⟨rfl, hb⟩
 generalize BoolPost w (scUse i (t, d)) = post at *
 clear hs hb0 hc
 go_enter Tryz.func72, Tryz.ntmps72
 go_wp2_with fail
 refine (HF.out _ HS.out).mono ?_
 rintro e w1 ⟨rfl, hb1⟩
 replace HB := tuck (bAfter HB.out hb1)
 clear hb1 c0 c1 c2 c3 cf hcg
 go_wp2_with fail
 first
  | exact HP.out _ HB.out
  | (go_ret; exact HP.out _ HB.out)
def ScIn (w : World) (l : List (Tm × Nat)) (v : Value) : Prop :=
 ∃ a cap b o, v = .slice a l.length cap ∧ l.length ≤ maxLen ∧ (0 < l.length → a = some ⟨b, o, none⟩ ∧ b < w.heap.size) ∧ ∀ (i : Nat) (h : i < l.length), ∃ s, w.cell? ⟨b, o + i * 4, none⟩ = some (.int .i64 l[i].1.kind) ∧ w.cell? ⟨b, o + i * 4 + 1, none⟩ = some (.int .i64 l[i].1.num) ∧ w.cell? ⟨b, o + i * 4 + 2, none⟩ = some s ∧ w.cell? ⟨b, o + i * 4 + 3, none⟩ = some (.int .i64 l[i].2) ∧ SlIn w 0 l[i].1.kids s ∧ l[i].2 ≤ 8
theorem ScIn.form {w : World} {l : List (Tm × Nat)} {v : Value} (h : ScIn w l v) : ∃ a cap, v = .slice a l.length cap := by
 obtain ⟨a, cap, _, _, h, _⟩ := h
 exact ⟨a, cap, h⟩
def FoundPost (w : World) (b : Bool) (e : Ending) (w' : World) : Prop := ∃ r : Int, e = .returned (.int .i64 r) ∧ decide (0 ≤ r) = b ∧ Below w.heap.size w w'
set_option maxRecDepth 100000 in
set_option maxHeartbeats 1600000 in
theorem scIndex_any (l : List (Tm × Nat)) (i : Int) (g : Nat) (hi0 : 0 ≤ i) (hi : i ≤ 8) (w : World) (v : Value) (hin : ScIn w l v) (hg : g < w.heap.size) (hcg : w.cell? ⟨g, 0, none⟩ = some (.int .i64 i)) : Calls Tryz.prog 105 #[v, .func (.func 72) #[] #[.pointer (some ⟨g, 0, none⟩)]] w (FoundPost w (l.any (scUse i))) := by
 obtain ⟨a, cap, b, o, rfl, hl, hp, hc⟩ := hin
 have HP := tuck hp
 have HC := tuck hc
 have HGC : Hid (∀ W, Below w.heap.size w W → g < W.heap.size ∧ W.cell? ⟨g, 0, none⟩ = some (.int .i64 i)) := tuck fun W h => ⟨Nat.lt_of_lt_of_le hg h.size, (h.cell (p := ⟨g, 0, none⟩) hg).trans hcg⟩
 unfold maxLen at hl
 clear hp hc hg hcg
 have HF : Hid ((∀ q (h : q < l.length), scUse i l[q] = false) → ∀ W, Below w.heap.size w W → FoundPost w (l.any (scUse i)) (.returned (.int .i64 (-1))) W) := tuck fun h W hb => ⟨-1, rfl, by
  have : l.any (scUse i) = false := by
   rw [List.any_eq_false]
   intro x hx
   obtain ⟨q, hq, rfl⟩ := List.getElem_of_mem hx
   rw [h q hq]; simp
  rw [this]; rfl, hb⟩
 have HT : Hid (∀ q (h : q < l.length), scUse i l[q] = true → ∀ W, Below w.heap.size w W → FoundPost w (l.any (scUse i)) (.returned (.int .i64 q)) W) := tuck fun q h ht W hb => ⟨q, rfl, by
  have : l.any (scUse i) = true := List.any_eq_true.2 ⟨_, List.getElem_mem h, ht⟩
  rw [this]; exact decide_eq_true (by omega), hb⟩
 generalize FoundPost w (l.any (scUse i)) = post at *
 go_enter Tryz.func105, Tryz.ntmps105
 go_wp2
 go_loopw [8] (fun iv wr => ∃ (q : Nat), q ≤ l.length ∧ iv = .int .i64 q ∧ Below w.heap.size w wr ∧ ∀ j (h : j < l.length), j < q → scUse i l[j] = false) (fun iv _ => l.length - (intOf iv).toNat)
 case atStart => exact ⟨0, Nat.zero_le _, rfl, Below.refl _ _, fun i _ h => absurd h (Nat.not_lt_zero _)⟩
 case round =>
  obtain ⟨q, hq, rfl, hb, hall⟩ := hrel
  by_cases hlt : q < l.length
  ·have hlti : ((q : Int) < (l.length : Int)) := by omega
   have hqi : (0 : Int) ≤ (q : Int) := by omega
   obtain ⟨rfl, hbw⟩ := HP.out (by omega)
   obtain ⟨s, c0, c1, c2, c3, hs, hd⟩ := HC.out q hlt
   obtain ⟨sa, sc, rfl⟩ := hs.form
   have hcc : ∀ j, wr.cell? ⟨b, j, none⟩ = w.cell? ⟨b, j, none⟩ := fun j => hb.cell (p := ⟨b, j, none⟩) hbw
   rw [← hcc] at c0 c1 c2 c3
   have HB := tuck hb
   have HALL := tuck hall
   have HCL : Hid (Calls Tryz.prog 72 #[.agg #[.int .i64 l[q].1.kind, .int .i64 l[q].1.num, .slice sa l[q].1.kids.length sc, .int .i64 l[q].2], .pointer (some ⟨g, 0, none⟩)] wr (BoolPost wr (scUse i l[q]))) := tuck (scUsesF_any _ _ i g hd hi0 hi wr _ (hs.below hb) (HGC.out _ hb).1 (HGC.out _ hb).2)
   have HTQ := tuck (HT.out q hlt)
   have HNQ : Hid (scUse i l[q] = false → ∀ j (h : j < l.length), j < q + 1 → scUse i l[j] = false) := tuck fun h0 j hj h => by
    by_cases e : j = q
    ·subst e; exact h0
    ·exact HALL.out j hj (by omega)
   obtain ⟨u, hu⟩ : ∃ u, u = scUse i l[q] := ⟨_, rfl⟩
   rw [← hu] at HCL HTQ HNQ
   clear hb hall hs hcc hu
   generalize l[q] = x at *
   obtain ⟨x1, x2⟩ := x
   simp only at HCL c0 c1 c2 c3
   go_wp2_with fail
   refine HCL.out.mono ?_
   rintro e w1 ⟨rfl, hb1⟩
   have HB2 := tuck (bAfter HB.out hb1)
   clear hb1 c0 c1 c2 c3
   cases u with
   | true =>
    go_wp2_with fail
    exact HTQ.out (by trivial) _ HB2.out
   | false =>
    go_wp2_with fail
    go_roundw
    case rel => exact ⟨q + 1, by omega, by go_num, HB2.out, HNQ.out (by trivial)⟩
    case measure => simp [intOf]; omega
  ·have hge2 : ¬ ((q : Int) < (l.length : Int)) := by omega
   have HB := tuck hb
   have HALL := tuck (show ∀ j (h : j < l.length), scUse i l[j] = false from fun j h => hall j h (by omega))
   clear hb hall
   go_wp2
   exact HF.out HALL.out _ HB.out
set_option maxRecDepth 100000 in
theorem scContains_any (l : List (Tm × Nat)) (i : Int) (g : Nat) (hi0 : 0 ≤ i) (hi : i ≤ 8) (w : World) (v : Value) (hin : ScIn w l v) (hg : g < w.heap.size) (hcg : w.cell? ⟨g, 0, none⟩ = some (.int .i64 i)) : Calls Tryz.prog 71 #[v, .func (.func 72) #[] #[.pointer (some ⟨g, 0, none⟩)]] w (BoolPost w (l.any (scUse i))) := by
 have HE := tuck (scIndex_any l i g hi0 hi w v hin hg hcg)
 obtain ⟨a, cap, rfl⟩ := hin.form
 have HP : Hid (∀ W, Below w.heap.size w W → BoolPost w (l.any (scUse i)) (.returned (.bool (l.any (scUse i)))) W) := tuck fun W hb => ⟨rfl, hb⟩
 generalize BoolPost w (l.any (scUse i)) = post at *
 unfold FoundPost at HE
 generalize l.any (scUse i) = u at *
 clear hin hcg hg
 go_enter Tryz.func71, Tryz.ntmps71
 go_wp2_with fail
 refine HE.out.mono ?_
 rintro e w1 ⟨r, rfl, hr, hb⟩
 have HB := tuck hb
 have hr2 : decide (r ≥ 0) = u := hr
 clear hb
 go_wp2_with fail
 first
  | exact HP.out _ HB.out
  | (go_ret; exact HP.out _ HB.out)
end Go.Proofs.YtpddjebdncaceaaGreat
