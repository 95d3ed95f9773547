/-
  TeleR.
-/
import Derived.Test.YtkjfdhdmkaofeaaB18
import Derived.Test.YtkjfdhdmkaofeaaB25
import Derived.Test.YtkjfdhdmkaofeaaB47
import Derived.ChangeAlike
import Derived.RegionTactic
namespace Go.Proofs.Ytkjfdhdmkaofeaa
open Go.RowKit
def swp (n k i : Nat) : Nat := if i < k ∨ n ≤ i + k then n - 1 - i else i
def SwpAt (w : World) (g : Nat) (f : Nat → Tm × Value) (n k : Nat) : Prop := ∀ i, i < n → w.cell? ⟨g, i * 3, none⟩ = some (.int .i64 (f (swp n k i)).1.kind) ∧ w.cell? ⟨g, i * 3 + 1, none⟩ = some (.int .i64 (f (swp n k i)).1.num) ∧ w.cell? ⟨g, i * 3 + 2, none⟩ = some (f (swp n k i)).2
theorem swp_zero {n i : Nat} (h : i < n) : swp n 0 i = i := by unfold swp; split <;> omega
theorem swp_end {n k i : Nat} (h : i < n) (hk : n ≤ 2 * k + 1) : swp n k i = n - 1 - i := by unfold swp; split <;> omega
theorem swp_other {n k i : Nat} (h : i < n) (hk : 2 * k + 1 < n) (h1 : i ≠ k) (h2 : i ≠ n - 1 - k) : swp n (k + 1) i = swp n k i := by unfold swp; split <;> split <;> omega
theorem swp_lo {n k : Nat} (hk : 2 * k + 1 < n) : swp n k k = k ∧ swp n (k + 1) k = n - 1 - k := by unfold swp; constructor <;> split <;> omega
theorem swp_hi {n k : Nat} (hk : 2 * k + 1 < n) : swp n k (n - 1 - k) = n - 1 - k ∧ swp n (k + 1) (n - 1 - k) = k := by unfold swp; constructor <;> split <;> omega
theorem c3_other (w : World) (g o i : Nat) (x y z : Value) (h0 : i ≠ o) (h1 : i ≠ o + 1) (h2 : i ≠ o + 2) : (((w.setCell ⟨g, o, none⟩ x).setCell ⟨g, o + 1, none⟩ y).setCell ⟨g, o + 2, none⟩ z).cell? ⟨g, i, none⟩ = w.cell? ⟨g, i, none⟩ := by
 rw [World.cell?_setCell_other _ _ _ _ (fun e => by injection e with _ e; omega), World.cell?_setCell_other _ _ _ _ (fun e => by injection e with _ e; omega), World.cell?_setCell_other _ _ _ _ (fun e => by injection e with _ e; omega)]
theorem c3_same {w : World} {g o : Nat} {a b c x y z : Value} (h0 : w.cell? ⟨g, o, none⟩ = some a) (h1 : w.cell? ⟨g, o + 1, none⟩ = some b) (h2 : w.cell? ⟨g, o + 2, none⟩ = some c) :
  (((w.setCell ⟨g, o, none⟩ x).setCell ⟨g, o + 1, none⟩ y).setCell ⟨g, o + 2, none⟩ z).cell? ⟨g, o, none⟩ = some x ∧ (((w.setCell ⟨g, o, none⟩ x).setCell ⟨g, o + 1, none⟩ y).setCell ⟨g, o + 2, none⟩ z).cell? ⟨g, o + 1, none⟩ = some y ∧ (((w.setCell ⟨g, o, none⟩ x).setCell ⟨g, o + 1, none⟩ y).setCell ⟨g, o + 2, none⟩ z).cell? ⟨g, o + 2, none⟩ = some z := by
 refine ⟨?_, ?_, ?_⟩
 ·rw [World.cell?_setCell_other _ _ _ _ (fun e => by injection e with _ e; omega), World.cell?_setCell_other _ _ _ _ (fun e => by injection e with _ e; omega)]
  exact World.cell?_setCell_same _ _ _ h0
 ·rw [World.cell?_setCell_other _ _ _ _ (fun e => by injection e with _ e; omega)]
  exact World.cell?_setCell_same _ _ _ ((World.cell?_setCell_other _ _ _ _ (fun e => by injection e with _ e; omega)).trans h1)
 ·exact World.cell?_setCell_same _ _ _ ((World.cell?_setCell_other _ _ _ _ (fun e => by injection e with _ e; omega)).trans ((World.cell?_setCell_other _ _ _ _ (fun e => by injection e with _ e; omega)).trans h2))
theorem swp_step {w wr : World} {g n k m : Nat} {f : Nat → Tm × Value} {x y : Tm × Value} {pa qa : Option Addr} {pc qc : Nat} {cs : Array Value} (hlt : 2 * k + 1 < n) (hm : m = n - 1 - k) (hx : f k = x) (hy : f m = y) (hp : x.2 = .slice pa x.1.kids.length pc) (hq : y.2 = .slice qa y.1.kids.length qc)
  (hgr : w.grownBy wr (some g)) (hcs : wr.heap[g]? = some (.cells cs 25 (0, 0))) (hsw : SwpAt wr g f n k) :
  w.grownBy (((((((wr.setCell ⟨g, k * 3, none⟩ (.int .i64 y.1.kind)).setCell ⟨g, k * 3 + 1, none⟩ (.int .i64 y.1.num)).setCell ⟨g, k * 3 + 2, none⟩ (.slice qa y.1.kids.length qc)).setCell ⟨g, m * 3, none⟩ (.int .i64 x.1.kind)).setCell ⟨g, m * 3 + 1, none⟩ (.int .i64 x.1.num)).setCell ⟨g, m * 3 + 2, none⟩ (.slice pa x.1.kids.length pc))).drew (some g) ∧ (∃ cs, (((((((wr.setCell ⟨g, k * 3, none⟩ (.int .i64 y.1.kind)).setCell ⟨g, k * 3 + 1, none⟩ (.int .i64 y.1.num)).setCell ⟨g, k * 3 + 2, none⟩ (.slice qa y.1.kids.length qc)).setCell ⟨g, m * 3, none⟩ (.int .i64 x.1.kind)).setCell ⟨g, m * 3 + 1, none⟩ (.int .i64 x.1.num)).setCell ⟨g, m * 3 + 2, none⟩ (.slice pa x.1.kids.length pc))).drew.heap[g]? = some (.cells cs 25 (0, 0))) ∧ SwpAt (((((((wr.setCell ⟨g, k * 3, none⟩ (.int .i64 y.1.kind)).setCell ⟨g, k * 3 + 1, none⟩ (.int .i64 y.1.num)).setCell ⟨g, k * 3 + 2, none⟩ (.slice qa y.1.kids.length qc)).setCell ⟨g, m * 3, none⟩ (.int .i64 x.1.kind)).setCell ⟨g, m * 3 + 1, none⟩ (.int .i64 x.1.num)).setCell ⟨g, m * 3 + 2, none⟩ (.slice pa x.1.kids.length pc))).drew g f n (k + 1) := by
 obtain ⟨c0, c1, c2⟩ := hsw k (by omega)
 obtain ⟨d0, d1, d2⟩ := hsw m (by omega)
 rw [(swp_lo hlt).1, hx] at c0 c1 c2
 rw [hm, (swp_hi hlt).1, ← hm, hy] at d0 d1 d2
 obtain ⟨e0, e1, e2⟩ := c3_same (x := .int .i64 y.1.kind) (y := .int .i64 y.1.num) (z := .slice qa y.1.kids.length qc) c0 c1 c2
 have g0 := (c3_other wr g (k * 3) (m * 3) (.int .i64 y.1.kind) (.int .i64 y.1.num) (.slice qa y.1.kids.length qc) (by omega) (by omega) (by omega)).trans d0
 have g1 := (c3_other wr g (k * 3) (m * 3 + 1) (.int .i64 y.1.kind) (.int .i64 y.1.num) (.slice qa y.1.kids.length qc) (by omega) (by omega) (by omega)).trans d1
 have g2 := (c3_other wr g (k * 3) (m * 3 + 2) (.int .i64 y.1.kind) (.int .i64 y.1.num) (.slice qa y.1.kids.length qc) (by omega) (by omega) (by omega)).trans d2
 have hO : Only g w wr := hgr
 have hO3 := ((hO.setCell (p := ⟨g, k * 3, none⟩) (Or.inl rfl) (.int .i64 y.1.kind)).setCell (p := ⟨g, k * 3 + 1, none⟩) (Or.inl rfl) (.int .i64 y.1.num)).setCell (p := ⟨g, k * 3 + 2, none⟩) (Or.inl rfl) (.slice qa y.1.kids.length qc)
 have hB3 := block_set (block_set (block_set hcs (k * 3) (.int .i64 y.1.kind)) (k * 3 + 1) (.int .i64 y.1.num)) (k * 3 + 2) (.slice qa y.1.kids.length qc)
 have hS3 : ∀ i, i < n → i ≠ k → i ≠ m → (((wr.setCell ⟨g, k * 3, none⟩ (.int .i64 y.1.kind)).setCell ⟨g, k * 3 + 1, none⟩ (.int .i64 y.1.num)).setCell ⟨g, k * 3 + 2, none⟩ (.slice qa y.1.kids.length qc)).cell? ⟨g, i * 3, none⟩ = some (.int .i64 (f (swp n (k + 1) i)).1.kind) ∧ (((wr.setCell ⟨g, k * 3, none⟩ (.int .i64 y.1.kind)).setCell ⟨g, k * 3 + 1, none⟩ (.int .i64 y.1.num)).setCell ⟨g, k * 3 + 2, none⟩ (.slice qa y.1.kids.length qc)).cell? ⟨g, i * 3 + 1, none⟩ = some (.int .i64 (f (swp n (k + 1) i)).1.num) ∧ (((wr.setCell ⟨g, k * 3, none⟩ (.int .i64 y.1.kind)).setCell ⟨g, k * 3 + 1, none⟩ (.int .i64 y.1.num)).setCell ⟨g, k * 3 + 2, none⟩ (.slice qa y.1.kids.length qc)).cell? ⟨g, i * 3 + 2, none⟩ = some (f (swp n (k + 1) i)).2 := fun i hi h1 h2 => by
  have h3 := hsw i hi
  rw [← swp_other hi hlt h1 (by omega)] at h3
  exact ⟨(c3_other _ _ _ _ _ _ _ (by omega) (by omega) (by omega)).trans h3.1, (c3_other _ _ _ _ _ _ _ (by omega) (by omega) (by omega)).trans h3.2.1, (c3_other _ _ _ _ _ _ _ (by omega) (by omega) (by omega)).trans h3.2.2⟩
 generalize ((wr.setCell ⟨g, k * 3, none⟩ (.int .i64 y.1.kind)).setCell ⟨g, k * 3 + 1, none⟩ (.int .i64 y.1.num)).setCell ⟨g, k * 3 + 2, none⟩ (.slice qa y.1.kids.length qc) = w3 at *
 obtain ⟨k0, k1, k2⟩ := c3_same (x := .int .i64 x.1.kind) (y := .int .i64 x.1.num) (z := .slice pa x.1.kids.length pc) g0 g1 g2
 have hO6 := ((hO3.setCell (p := ⟨g, m * 3, none⟩) (Or.inl rfl) (.int .i64 x.1.kind)).setCell (p := ⟨g, m * 3 + 1, none⟩) (Or.inl rfl) (.int .i64 x.1.num)).setCell (p := ⟨g, m * 3 + 2, none⟩) (Or.inl rfl) (.slice pa x.1.kids.length pc)
 have hB6 := block_set (block_set (block_set hB3 (m * 3) (.int .i64 x.1.kind)) (m * 3 + 1) (.int .i64 x.1.num)) (m * 3 + 2) (.slice pa x.1.kids.length pc)
 have hS6 : SwpAt (((w3.setCell ⟨g, m * 3, none⟩ (.int .i64 x.1.kind)).setCell ⟨g, m * 3 + 1, none⟩ (.int .i64 x.1.num)).setCell ⟨g, m * 3 + 2, none⟩ (.slice pa x.1.kids.length pc)) g f n (k + 1) := fun i hi => by
  by_cases hik : i = k
  ·subst hik
   rw [(swp_lo hlt).2, ← hm, hy, hq]
   exact ⟨(c3_other _ _ _ _ _ _ _ (by omega) (by omega) (by omega)).trans e0, (c3_other _ _ _ _ _ _ _ (by omega) (by omega) (by omega)).trans e1, (c3_other _ _ _ _ _ _ _ (by omega) (by omega) (by omega)).trans e2⟩
  ·by_cases him : i = m
   ·subst him
    have h2 := (swp_hi hlt).2
    rw [← hm] at h2
    rw [h2, hx, hp]
    exact ⟨k0, k1, by rw [← hp]; rw [hp]; exact k2⟩
   ·obtain ⟨t0, t1, t2⟩ := hS3 i hi hik him
    exact ⟨(c3_other _ _ _ _ _ _ _ (by omega) (by omega) (by omega)).trans t0, (c3_other _ _ _ _ _ _ _ (by omega) (by omega) (by omega)).trans t1, (c3_other _ _ _ _ _ _ _ (by omega) (by omega) (by omega)).trans t2⟩
 generalize ((w3.setCell ⟨g, m * 3, none⟩ (.int .i64 x.1.kind)).setCell ⟨g, m * 3 + 1, none⟩ (.int .i64 x.1.num)).setCell ⟨g, m * 3 + 2, none⟩ (.slice pa x.1.kids.length pc) = w6 at *
 exact ⟨hO6.drew, ⟨_, hB6⟩, hS6⟩
set_option maxRecDepth 100000 in
set_option maxHeartbeats 2000000 in
theorem reverse_any (n : Nat) (hn : n ≤ 1000) (f : Nat → Tm × Value) (hf : ∀ i, i < n → ∃ a c, (f i).2 = .slice a (f i).1.kids.length c) (w : World) (g cap : Nat) (cs0 : Array Value) (hg : w.heap[g]? = some (.cells cs0 25 (0, 0))) (h0 : SwpAt w g f n 0) :
  Calls Try.prog 45 #[.slice (some ⟨g, 0, none⟩) n cap] w fun e w' => (∃ v, e = .returned v) ∧ w.grownBy w' (some g) ∧ (∃ cs, w'.heap[g]? = some (.cells cs 25 (0, 0))) ∧ SwpAt w' g f n n := by
 have HG := tuck hg
 have H0 := tuck h0
 have HF := tuck hf
 clear hg h0 hf
 have hw1 : IntKind.i64.wrap ((n : Int) - 1) = (n : Int) - 1 := IntWalk.i64_in _ (by omega)
 go_enter Try.func45, Try.ntmps45
 go_wp2
 go_loopw [2, 3] (fun i j wr => ∃ k : Nat, 2 * k ≤ n + 1 ∧ i = .int .i64 (k : Int) ∧ j = .int .i64 ((n : Int) - 1 - k) ∧ w.grownBy wr (some g) ∧ (∃ cs, wr.heap[g]? = some (.cells cs 25 (0, 0))) ∧ SwpAt wr g f n k) (fun i _ _ => n - (intOf i).toNat)
 case atStart =>
  refine ⟨0, by omega, rfl, by congr 1; omega, ?_, ⟨_, HG.out⟩, H0.out⟩
  exact ⟨rfl, rfl, rfl, Nat.le_refl _, fun _ _ _ => rfl⟩
 case round =>
  obtain ⟨k, hk, rfl, rfl, hgr, ⟨cs, hcs⟩, hsw⟩ := hrel
  by_cases hlt : 2 * k + 1 < n
  ·obtain ⟨m, hm⟩ : ∃ m : Nat, m = n - 1 - k := ⟨_, rfl⟩
   have hmi : (n : Int) - 1 - k = (m : Int) := by omega
   rw [hmi]
   have hkm : (k : Int) < (m : Int) := by omega
   have hkn : (k : Int) < (n : Int) := by omega
   have hmn : (m : Int) < (n : Int) := by omega
   have hk0 : (0 : Int) ≤ (k : Int) := by omega
   have hm0 : (0 : Int) ≤ (m : Int) := by omega
   obtain ⟨c0, c1, c2⟩ := hsw k (by omega)
   obtain ⟨d0, d1, d2⟩ := hsw m (by omega)
   rw [(swp_lo hlt).1] at c0 c1 c2
   rw [hm, (swp_hi hlt).1, ← hm] at d0 d1 d2
   obtain ⟨pa, pc, hp⟩ := HF.out k (by omega)
   obtain ⟨qa, qc, hq⟩ := HF.out m (by omega)
   rw [hp] at c2
   rw [hq] at d2
   obtain ⟨hz, -, hfz⟩ := block_of_cells hcs
   have HSW := tuck hsw
   have HCS := tuck hcs
   have HGR := tuck hgr
   have HP' := tuck hp
   have HQ' := tuck hq
   have HM := tuck hm
   clear hsw hcs hgr hp hq
   generalize hx : f k = x at *
   generalize hy : f m = y at *
   have HX := tuck hx
   have HY := tuck hy
   have n00 : m * 3 ≠ k * 3 := by omega
   have n01 : m * 3 ≠ k * 3 + 1 := by omega
   have n02 : m * 3 ≠ k * 3 + 2 := by omega
   have n10 : m * 3 + 1 ≠ k * 3 := by omega
   have n11 : m * 3 + 1 ≠ k * 3 + 1 := by omega
   have n12 : m * 3 + 1 ≠ k * 3 + 2 := by omega
   have n20 : m * 3 + 2 ≠ k * 3 := by omega
   have n21 : m * 3 + 2 ≠ k * 3 + 1 := by omega
   have n22 : m * 3 + 2 ≠ k * 3 + 2 := by omega
   clear hx hy hm
   go_wp2_with fail
   go_region
   all_goals (go_wp2_with fail)
   have hst := swp_step hlt HM.out HX.out HY.out HP'.out HQ'.out HGR.out HCS.out HSW.out
   have hmi2 : (m : Int) - 1 = (n : Int) - 1 - ((k + 1 : Nat) : Int) := by have h := HM.out; omega
   have hki2 : (k : Int) + 1 = ((k + 1 : Nat) : Int) := by omega
   rw [hmi2, hki2]
   exact ⟨⟨k + 1, by omega, rfl, rfl, hst.1, hst.2.1, hst.2.2⟩, by simp [intOf]; omega⟩
  ·have hge : ¬ ((k : Int) < (n : Int) - 1 - k) := by omega
   have HSW : Hid (SwpAt wr g f n n) := tuck fun i hi => by
    have := hsw i hi
    rwa [swp_end hi (by omega), ← swp_end hi (k := n) (by omega)] at this
   have HGR := tuck hgr
   have HCS := tuck hcs
   clear hsw hgr hcs
   go_wp2
   go_end0
   exact ⟨⟨_, rfl⟩, HGR.out, ⟨_, HCS.out⟩, HSW.out⟩
theorem rev_cells : ∀ (r : List (Tm × Value)) (j : Nat) (hj : j < r.length), (cellsL r)[j * 3]? = some (.int .i64 r[j].1.kind) ∧ (cellsL r)[j * 3 + 1]? = some (.int .i64 r[j].1.num) ∧ (cellsL r)[j * 3 + 2]? = some r[j].2
 | [], j, h => by simp at h
 | (t, s) :: r, 0, _ => ⟨rfl, rfl, rfl⟩
 | (t, s) :: r, j + 1, h => by
  have ih := rev_cells r j (by simpa using h)
  have h3 : (j + 1) * 3 = j * 3 + 1 + 1 + 1 := by omega
  simp only [cellsL, h3, List.getElem?_cons_succ, List.getElem_cons_succ]
  exact ih
set_option maxRecDepth 100000 in
theorem reverse_nil (w : World) : Calls Try.prog 45 #[.slice none 0 0] w fun e w' => (∃ v, e = .returned v) ∧ w' = w := by
 have hlt : ¬ (0 : Int) < -1 := by omega
 go_enter Try.func45, Try.ntmps45
 go_wp2
 go_loopw [2, 3] (fun i j wr => i = .int .i64 0 ∧ j = .int .i64 (-1) ∧ wr = w) (fun _ _ _ => 0)
 case atStart => exact ⟨rfl, by first | rfl | (congr 1; decide), rfl⟩
 case round =>
  obtain ⟨rfl, rfl, rfl⟩ := hrel
  go_wp2
  go_end0
  exact ⟨⟨_, rfl⟩, rfl⟩
theorem revRow_any {Z base n : Nat} {l : List Tm} {a : Option Addr} {cap : Nat} {w : World} (h : RowT Z base l (.slice a n cap) w) (hl : l.length = n) (hn : n ≤ 1000) :
  Calls Try.prog 45 #[.slice a n cap] w fun e w' => (∃ v, e = .returned v) ∧ w.grownBy w' (Value.slice a n cap).ownBlock ∧ SlX w' (fun i => Z ≤ i ∧ i < base) l.reverse (.slice a n cap) := by
 obtain ⟨rs, h1, h2, h3⟩ := h
 have hrow := h2
 have hrl : rs.length = n := by rw [← hl, ← h1, List.length_map]
 rcases h2.2 with ⟨e1, e2⟩ | ⟨g, cap', cur, e, r1, r2, r3⟩
 ·have hl0 : l = [] := List.length_eq_zero_iff.1 e2
  simp only [Value.slice.injEq] at e1
  obtain ⟨rfl, rfl, rfl⟩ := e1
  subst hl0
  refine (reverse_nil w).mono fun e w' h => ⟨h.1, ?_, SlX.nil _ _ _ _⟩
  rw [h.2]
  exact ⟨rfl, rfl, rfl, Nat.le_refl _, fun _ _ _ => rfl⟩
 ·simp only [Value.slice.injEq] at e
  obtain ⟨rfl, -, rfl⟩ := e
  have hcell : ∀ j u, (cellsL rs)[j]? = some u → w.cell? ⟨g, j, none⟩ = some u := fun j u hu => by
   have := hrow.cells (g := g) rfl j u hu
   have hadd : (⟨g, 0, none⟩ : Addr).add j = ⟨g, j, none⟩ := by unfold Addr.add; split <;> simp_all
   rwa [hadd] at this
  have h0 : SwpAt w g (fun i => rs[i]?.getD (zeroT, .slice none 0 0)) n 0 := fun i hi => by
   rw [swp_zero hi]
   obtain ⟨k0, k1, k2⟩ := rev_cells rs i (by omega)
   have : rs[i]?.getD (zeroT, .slice none 0 0) = rs[i]'(by omega) := by simp [show i < rs.length by omega]
   dsimp only
   rw [this]
   exact ⟨hcell _ _ k0, hcell _ _ k1, hcell _ _ k2⟩
  refine (reverse_any n hn _ (fun i hi => ?_) w g cap cur r2 h0).mono fun e w' h => ⟨h.1, h.2.1, ?_⟩
  ·have : rs[i]?.getD (zeroT, .slice none 0 0) = rs[i]'(by omega) := by simp [show i < rs.length by omega]
   rw [this]
   exact (h3 _ (List.getElem_mem (by omega))).form
  ·have hlr : l.reverse.length = n := by rw [List.length_reverse, hl]
   have key : SlX w' (fun i => Z ≤ i ∧ i < base) l.reverse (.slice (some ⟨g, 0, none⟩) l.reverse.length cap) := SlX.mk (by rw [hlr]; unfold maxLen; omega) (fun hx => by have := hx.2; omega) (fun i hi => ?_)
   ·rwa [hlr] at key
   rw [List.length_reverse, hl] at hi
   obtain ⟨c0, c1, c2⟩ := h.2.2.2 i hi
   rw [swp_end hi (by omega)] at c0 c1 c2
   have hx : rs[n - 1 - i]?.getD (zeroT, .slice none 0 0) = rs[n - 1 - i]'(by omega) := by simp [show n - 1 - i < rs.length by omega]
   dsimp only at c0 c1 c2
   rw [hx] at c0 c1 c2
   have hli : l.reverse[i]'(by rw [List.length_reverse, hl]; exact hi) = (rs[n - 1 - i]'(by omega)).1 := by
    rw [List.getElem_reverse]
    subst h1
    simp only [List.getElem_map, List.length_map, hrl]
   rw [hli, Nat.zero_add]
   refine ⟨_, c0, c1, c2, ?_⟩
   exact (h3 _ (List.getElem_mem (show n - 1 - i < rs.length by omega))).to fun p u hnX hc => ⟨fun hf => hnX (Or.inl hf), (World.cell?_of_block (h.2.1.block p.block (World.block_lt_of_cell? w p hc) (fun e => hnX (Or.inr (by rw [e]; rfl))))).trans hc⟩
end Go.Proofs.Ytkjfdhdmkaofeaa
