/-
  PlAD, DkI, Vars, VarsQ, VarsP.
-/
import Derived.Test.YtihlbbbajaepoaaP05
import Derived.Test.YtihlbbbajaepoaaP07
import Derived.Test.YtihlbbbajaepoaaP08
import Derived.Test.YtihlbbbajaepoaaP10
import Derived.Test.YtihlbbbajaepoaaP11
import Derived.Test.YtihlbbbajaepoaaP13
import Derived.Test.YtihlbbbajaepoaaP15
import Derived.Test.YtihlbbbajaepoaaP16
import Derived.Test.YtihlbbbajaepoaaP17
import Derived.Test.YtihlbbbajaepoaaP18
import Derived.Test.YtihlbbbajaepoaaP20
import Derived.Test.YtihlbbbajaepoaaP21
import Derived.Test.YtihlbbbajaepoaaP26
import Derived.Test.YtihlbbbajaepoaaP27
import Derived.Test.YtihlbbbajaepoaaP30
import Derived.Test.YtihlbbbajaepoaaP31
import Derived.Test.YtihlbbbajaepoaaP33
import Derived.BigQuiet
import Derived.Carry
import Derived.Deep.DeepCutAuto
import Derived.Deep.QuietTactic
import Derived.IntWalk
namespace Go.Proofs.Ytihlbbbajaepoaa
theorem way_congr {t : Tm} {N N' : Int → Int} : ∀ i : Nat, (∀ j : Nat, j < i → N' j = N j) → way t N' i = way t N i
 | 0, _ => rfl
 | i + 1, h => by
  rw [way, way, way_congr i (fun j hj => h j (by omega)), h i (by omega)]
theorem way_kid {t x : Tm} {p : List (Tm × Nat)} {i : Nat} (h : way t (ixAt p) p.length = some (p, x)) (hi : i < x.kids.length) : way t (ixAt (p ++ [(x, i)])) (p ++ [(x, i)]).length = some (p ++ [(x, i)], kidT x i) := by
 rw [List.length_append, List.length_singleton]
 have h1 : way t (ixAt (p ++ [(x, i)])) p.length = some (p, x) := by
  rw [← h]
  exact way_congr _ fun j hj => by
   rw [ixAt_eq _ _ (by rw [List.length_append, List.length_singleton]; omega), ixAt_eq _ _ hj, List.getElem_append_left hj]
 have h2 : ixAt (p ++ [(x, i)]) (p.length : Int) = (i : Int) := by
  rw [ixAt_eq _ _ (by simp), List.getElem_append_right (Nat.le_refl _)]
  simp
 have h3 := way_yes h1 (by rw [h2]; exact ⟨by omega, by omega⟩)
 rw [h3, h2]
 simp
mutual
theorem Tm.nodes_way (t0 : Tm) : ∀ (t : Tm) (p : List (Tm × Nat)), way t0 (ixAt p) p.length = some (p, t) → ∀ y ∈ t.nodesFrom p, way t0 (ixAt y.1) y.1.length = some y
 | .mk k n l, p, h, y, hy => by
  rw [Tm.nodesFrom] at hy
  rcases List.mem_cons.1 hy with rfl | hy
  ·exact h
  ·exact kids_way t0 (.mk k n l) l 0 p (by simp [Tm.kids]) h y hy
theorem kids_way (t0 : Tm) : ∀ (x : Tm) (l : List Tm) (i : Nat) (p : List (Tm × Nat)), x.kids.drop i = l → way t0 (ixAt p) p.length = some (p, x) → ∀ y ∈ kidsFrom x l i p, way t0 (ixAt y.1) y.1.length = some y
 | _, [], _, _, _, _, y, hy => by rw [kidsFrom] at hy; cases hy
 | x, t :: l, i, p, hd, h, y, hy => by
  have hi : i < x.kids.length := by
   rcases Nat.lt_or_ge i x.kids.length with h | h
   ·exact h
   ·rw [List.drop_eq_nil_of_le h] at hd; cases hd
  have hdd := List.drop_eq_getElem_cons hi
  rw [hd] at hdd
  obtain ⟨ht, hl⟩ := List.cons.inj hdd
  have hk : kidT x i = t := by rw [kidT_eq hi, ht]
  rw [kidsFrom] at hy
  rcases List.mem_append.1 hy with hy | hy
  ·exact Tm.nodes_way t0 t (p ++ [(x, i)]) (by rw [← hk]; exact way_kid h hi) y hy
  ·exact kids_way t0 x l (i + 1) p hl.symm h y hy
end
theorem nodes_place {t : Tm} (hv : t.Valid) {y : List (Tm × Nat) × Tm} (hy : y ∈ t.nodesFrom []) : IsPlace t (ixAt y.1) y.1.length ∧ wayT t (ixAt y.1) y.1.length = y.2 := by
 have h := Tm.nodes_way t t [] rfl y hy
 obtain ⟨h1, -, h3⟩ := is_place hv h
 exact ⟨h1, h3⟩
theorem climbR_ne : ∀ (r q : List (Tm × Nat)) (z : Tm), climbR r = some (q, z) → q.map Prod.snd ≠ r.reverse.map Prod.snd
 | [], q, z, h => by simp [climbR] at h
 | (y, i) :: r, q, z, h => by
  rw [climbR] at h
  by_cases hi : i + 1 < y.kids.length
  ·rw [if_pos hi] at h
   simp only [Option.some.injEq, Prod.mk.injEq] at h
   obtain ⟨rfl, -⟩ := h
   simp
  ·rw [if_neg hi] at h
   intro e
   have hl := congrArg List.length e
   have key : ∀ (r q : List (Tm × Nat)) (z : Tm), climbR r = some (q, z) → q.length ≤ r.length := by
    intro r
    induction r with
    | nil => intro q z h; simp [climbR] at h
    | cons a r ih =>
     obtain ⟨y, i⟩ := a
     intro q z h
     rw [climbR] at h
     by_cases hi : i + 1 < y.kids.length
     ·rw [if_pos hi] at h
      simp only [Option.some.injEq, Prod.mk.injEq] at h
      obtain ⟨rfl, -⟩ := h
      simp
     ·rw [if_neg hi] at h
      have := ih q z h
      simp
      omega
   have := key r q z h
   simp at hl
   omega
theorem next_ne {y y' : List (Tm × Nat) × Tm} (h : nextAt y = some y') : y'.1.map Prod.snd ≠ y.1.map Prod.snd := by
 unfold nextAt at h
 by_cases hk : 0 < y.2.kids.length
 ·rw [if_pos hk] at h
  simp only [Option.some.injEq] at h
  subst h
  intro e
  have := congrArg List.length e
  simp at this
 ·rw [if_neg hk] at h
  have := climbR_ne y.1.reverse y'.1 y'.2 h
  rwa [List.reverse_reverse] at this
def sameN (N : Int → Int) (n : Nat) (N' : Int → Int) (n' : Nat) : Prop := n = n' ∧ ∀ j : Nat, j < n → N j = N' j
theorem sameN_ix {p q : List (Tm × Nat)} (h : sameN (ixAt p) p.length (ixAt q) q.length) : p.map Prod.snd = q.map Prod.snd := by
 obtain ⟨h1, h2⟩ := h
 apply List.ext_getElem
 ·simp [h1]
 ·intro j hj hj'
  rw [List.length_map] at hj hj'
  have := h2 j hj
  rw [ixAt_eq _ _ hj, ixAt_eq _ _ hj'] at this
  simp only [List.getElem_map]
  omega
theorem plcOf_false (L : List (List (Tm × Nat) × Tm)) : plcOf false L = L.map fun y => (ixAt y.1, y.1.length) := by
 unfold plcOf
 rw [List.filter_eq_self.2 (fun y _ => by simp)]
theorem placesP_count (t : Tm) : ((placesP false t).length : Int) = nodesOf t := by
 unfold placesP nodesOf
 by_cases hv : t.Valid
 ·rw [if_pos hv, if_pos hv, plcOf_false, List.length_map, t.nodes_len]
 ·rw [if_neg hv, if_neg hv]
  rfl
theorem placesP_at {t : Tm} {j : Nat} (h : j < (placesP false t).length) : IsPlace t (placesP false t)[j].1 (placesP false t)[j].2 ∧ ∀ i, j = i + 1 → ∀ (hi : i < (placesP false t).length), ¬ sameN (placesP false t)[j].1 (placesP false t)[j].2 (placesP false t)[i].1 (placesP false t)[i].2 := by
 have hv : t.Valid := Classical.byContradiction fun hn => by
  unfold placesP at h
  rw [if_neg hn] at h
  simp at h
 have e : placesP false t = (t.nodesFrom []).map fun y => (ixAt y.1, y.1.length) := by
  unfold placesP
  rw [if_pos hv, plcOf_false]
 have hl : j < (t.nodesFrom []).length := by rw [e, List.length_map] at h; exact h
 simp only [e, List.getElem_map]
 refine ⟨(nodes_place hv (List.getElem_mem hl)).1, fun i hji hi hs => ?_⟩
 subst hji
 have hrun := t.nodes_run []
 rw [show climb [] = none from rfl] at hrun
 exact next_ne (RunsTo.get hrun i hl) (sameN_ix hs)
end Go.Proofs.Ytihlbbbajaepoaa
namespace Go.Proofs.Ytihlbbbajaepoaa
open Go.RowKit
set_option maxRecDepth 100000 in
theorem dkInts_any (N M : Int → Int) (n m : Nat) (w : World) (v1 v2 : Value) (h0 : n ≤ 1048576) (h1 : Ints w 0 N n v1) (h2 : Ints w 0 M m v2) : Calls Try.prog 33 #[v1, v2] w (BoolPost w (tr (sameN N n M m))) := by
 obtain ⟨a, cap, b, o, rfl, hp, hc⟩ := h1
 obtain ⟨a', cap', b', o', rfl, hp', hc'⟩ := h2
 have HP := tuck hp
 have HC := tuck hc
 have HP' := tuck hp'
 have HC' := tuck hc'
 clear hp hc hp' hc'
 by_cases hnm : n = m
 rotate_left
 ·have hne : ((n : Int) != (m : Int)) = true := by simp; omega
  rw [tr_not (fun h => hnm h.1)]
  go_enter Try.func33, Try.ntmps33
  go_wp2
  go_ret
  exact ⟨rfl, Below.refl _ _⟩
 subst hnm
 have hll : ((n : Int) != (n : Int)) = false := by simp
 have HY : Hid ((∀ j : Nat, j < n → N j = M j) → ∀ W, Below w.heap.size w W → BoolPost w (tr (sameN N n M n)) (.returned (.bool true)) W) := tuck fun h W hb => by rw [tr_of ⟨rfl, h⟩]; exact ⟨rfl, hb⟩
 have HN : Hid ((∃ j : Nat, j < n ∧ N j ≠ M j) → ∀ W, Below w.heap.size w W → BoolPost w (tr (sameN N n M n)) (.returned (.bool false)) W) := tuck fun h W hb => by
  obtain ⟨j, h1, h2⟩ := h
  rw [tr_not fun h => h2 (h.2 j h1)]
  exact ⟨rfl, hb⟩
 generalize BoolPost w (tr (sameN N n M n)) = post at *
 go_enter Try.func33, Try.ntmps33
 go_wp2
 go_loopw [5] (fun i wr => ∃ q : Nat, q ≤ n ∧ i = .int .i64 q ∧ Below w.heap.size w wr ∧ ∀ j : Nat, j < q → N j = M j) (fun i _ => n - (intOf i).toNat)
 case atStart => exact ⟨0, Nat.zero_le _, rfl, Below.refl _ _, fun j h => absurd h (by omega)⟩
 case round =>
  obtain ⟨q, hq, rfl, hb, hall⟩ := hrel
  by_cases hlt : q < n
  ·have hlti : ((q : Int) < (n : Int)) := by omega
   have hqi : (0 : Int) ≤ (q : Int) := by omega
   obtain ⟨rfl, _, hbw⟩ := HP.out (by omega)
   obtain ⟨rfl, _, hbw'⟩ := HP'.out (by omega)
   have c0 := (hb.cell (p := ⟨b, o + q, none⟩) hbw).trans (HC.out q hlt)
   have c1 := (hb.cell (p := ⟨b', o' + q, none⟩) hbw').trans (HC'.out q hlt)
   have HB := tuck hb
   have HALL := tuck hall
   clear hb hall
   by_cases hnn : N q = M q
   ·have hne : (N q != M q) = false := by simp [hnn]
    have HNN := tuck hnn
    clear hnn
    go_wp2
    go_still (by kernel_rfl)
    go_wp2
    go_roundw
    case rel => exact ⟨q + 1, by omega, by go_num, HB.out.drew, fun j hj => by
     by_cases e : j = q
     ·rw [e]; exact HNN.out
     ·exact HALL.out j (by omega)⟩
    case measure => simp [intOf]; omega
   ·have hne : (N q != M q) = true := by simpa using hnn
    have HNN := tuck hnn
    clear hnn
    go_wp2
    go_still (by kernel_rfl)
    go_wp2
    exact HN.out ⟨q, hlt, HNN.out⟩ _ HB.out.drew
  ·have hge2 : ¬ ((q : Int) < (n : Int)) := by omega
   have e : q = n := by omega
   subst e
   have HB := tuck hb
   have HALL := tuck hall
   clear hb hall
   go_wp2
   exact HY.out HALL.out _ HB.out
theorem cellAt_keep {g q : Nat} {x : Value} {A B : World} (h : g < A.heap.size ∧ A.cell? ⟨g, q, none⟩ = some x) (hb : Below A.heap.size A B) : g < B.heap.size ∧ B.cell? ⟨g, q, none⟩ = some x :=
 ⟨Nat.lt_of_lt_of_le h.1 hb.size, (hb.cell (p := ⟨g, q, none⟩) h.1).trans h.2⟩
theorem cellAt_set3 {g q gz : Nat} {x y0 y1 y2 : Value} {A : World} (h : g < A.heap.size ∧ A.cell? ⟨g, q, none⟩ = some x) (hn : g ≠ gz) : g < (((A.setCell ⟨gz, 0, none⟩ y0).setCell ⟨gz, 1, none⟩ y1).setCell ⟨gz, 2, none⟩ y2).heap.size ∧ (((A.setCell ⟨gz, 0, none⟩ y0).setCell ⟨gz, 1, none⟩ y1).setCell ⟨gz, 2, none⟩ y2).cell? ⟨g, q, none⟩ = some x := by
 refine ⟨by simpa [World.setCell] using h.1, ?_⟩
 rw [World.cell?_of_block (a := ⟨g, q, none⟩) (Below.heap_setCell _ _ _ g (by show g ≠ gz; exact hn)), World.cell?_of_block (a := ⟨g, q, none⟩) (Below.heap_setCell _ _ _ g (by show g ≠ gz; exact hn)), World.cell?_of_block (a := ⟨g, q, none⟩) (Below.heap_setCell _ _ _ g (by show g ≠ gz; exact hn))]
 exact h.2
end Go.Proofs.Ytihlbbbajaepoaa
namespace Go.Proofs.Ytihlbbbajaepoaa
open Go.RowKit
structure TV (g : Nat) (T : Tm) (a : Option Addr) (c : Nat) (w : World) : Prop where
 var : VarAt g T.kind T.num (.slice a T.kids.length c) w
 sl : SlIn w 0 T.kids (.slice a T.kids.length c)
theorem TV.below {g : Nat} {T : Tm} {a : Option Addr} {c : Nat} {w w' : World} (h : TV g T a c w) (hb : Below w.heap.size w w') : TV g T a c w' := ⟨h.var.below hb, h.sl.below hb⟩
theorem TV.new {T : Tm} {a : Option Addr} {c : Nat} {w : World} (h : SlIn w 0 T.kids (.slice a T.kids.length c)) : TV w.heap.size T a c (w.alloc (.cells #[.int .i64 T.kind, .int .i64 T.num, .slice a T.kids.length c] 30)) := ⟨VarAt.new _ _ _ _, h.below (below1 _ _)⟩
theorem TV.tm {g : Nat} {T : Tm} {a : Option Addr} {c : Nat} {w : World} (h : TV g T a c w) : TmIn w 0 T (.agg #[.int .i64 T.kind, .int .i64 T.num, .slice a T.kids.length c]) := ⟨_, rfl, h.sl⟩
theorem TV.facts {g : Nat} {T : Tm} {a : Option Addr} {c : Nat} {w : World} (h : TV g T a c w) : g < w.heap.size ∧ w.cell? ⟨g, 0, none⟩ = some (.int .i64 T.kind) ∧ w.cell? ⟨g, 1, none⟩ = some (.int .i64 T.num) ∧ w.cell? ⟨g, 2, none⟩ = some (.slice a T.kids.length c) ∧ ∀ i, w.frozen? ⟨g, i, none⟩ = false := h.var.facts
theorem orZero_yes {P : Prop} {T : Tm} (h : P) : orZero P T = T := by unfold orZero; rw [if_pos h]
end Go.Proofs.Ytihlbbbajaepoaa
namespace Go.Proofs.Ytihlbbbajaepoaa
open Go.RowKit
def NewPost8 (w : World) (T : Tm) (b : Bool) (e : Ending) (w' : World) : Prop := Below w.heap.size w w' ∧ ∃ v, e = .returned (.tuple #[v, .bool b]) ∧ TmIn w' w.heap.size T v
end Go.Proofs.Ytihlbbbajaepoaa
namespace Go.Proofs.Ytihlbbbajaepoaa
open Go.RowKit
theorem termAtI_n {t : Tm} {N : Int → Int} {len : Nat} (hlen : len ≤ 1048576) (w : World) (v tv : Value) (hl : Ints w 0 N len v) (ht : TmIn w 0 t tv) : Calls Try.prog 32 #[tv, v] w (NewPost8 w (orZero (IsPlace t N len) (wayT t N len)) (tr (IsPlace t N len))) := (termAtI_any t N len hlen w tv v ht hl).mono fun _ _ ⟨hb, v, he, s, _, hv, hs, _, hF⟩ => ⟨hb, v, he, s, hv, hs.sl fun g hg => (hF g hg).1⟩
end Go.Proofs.Ytihlbbbajaepoaa
