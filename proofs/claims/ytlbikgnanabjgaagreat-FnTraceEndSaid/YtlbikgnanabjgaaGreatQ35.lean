/-
  Arnd.
-/
import Derived.Test.YtlbikgnanabjgaaGreatQ18
import Derived.Test.YtlbikgnanabjgaaGreatQ24
import Derived.Test.YtlbikgnanabjgaaGreatQ27
import Derived.Test.YtlbikgnanabjgaaGreatQ30
import Derived.LoopIn
import Derived.LoopNIn
import Derived.OwnWalkIn
import Derived.RangeFuncBound
import Derived.RangeFuncCalls
import Derived.RangeFuncLeaves
import Derived.RangeFuncNested
import Derived.Shelf.Abstract
import Derived.Shelf.RegionOpen
import Derived.TacticsInMore
import Derived.WalkKit
namespace Go.Proofs.YtlbikgnanabjgaaGreat
open Go.RowKit Go.Shelf
attribute [local go_sem] Oper.semAt_some
def entry (qs : List (Tm × Value × Nat)) (j : Nat) : Tm × Value × Nat := qs[j]?.getD (zeroT, .slice none 0 0, 0)
def fromTop (n k : Nat) : List (Fin n) := (List.finRange n).reverse.take k
theorem fromTop_length {n k : Nat} (h : k ≤ n) : (fromTop n k).length = k := by simp [fromTop]; omega
theorem fromTop_succ {n k j : Nat} (h : k < n) (hj : j = n - 1 - k) : fromTop n (k + 1) = fromTop n k ++ [⟨j, by omega⟩] := by
 unfold fromTop
 rw [List.take_succ_eq_append_getElem (by simpa using h)]
 congr 2
 rw [List.getElem_reverse]
 apply Fin.ext
 simp [hj]
theorem fromTop_all (n : Nat) : fromTop n n = (List.finRange n).reverse := by
 unfold fromTop
 rw [List.take_of_length_le (by simp)]
def encPassed (qs : List (Tm × Value × Nat)) (j : Fin qs.length) : Array Value := #[.int .i64 (j.1 : Int), .agg #[.int .i64 (entry qs j.1).1.kind, .int .i64 (entry qs j.1).1.num, (entry qs j.1).2.1, .int .i64 ((entry qs j.1).2.2 : Int)]]
theorem stkCells_get : ∀ (qs : List (Tm × Value × Nat)) (j : Nat), j < qs.length → (stkCells qs)[j * 4]? = some (.int .i64 (entry qs j).1.kind) ∧ (stkCells qs)[j * 4 + 1]? = some (.int .i64 (entry qs j).1.num) ∧ (stkCells qs)[j * 4 + 2]? = some (entry qs j).2.1 ∧ (stkCells qs)[j * 4 + 3]? = some (.int .i64 ((entry qs j).2.2 : Int))
 | [], j, h => by simp at h
 | (t, s, i) :: r, 0, _ => ⟨rfl, rfl, rfl, rfl⟩
 | (t, s, i) :: r, j + 1, h => by
  have ih := stkCells_get r j (by simpa using h)
  have e : entry ((t, s, i) :: r) (j + 1) = entry r j := rfl
  rw [e]
  have h4 : (j + 1) * 4 = j * 4 + 1 + 1 + 1 + 1 := by omega
  simp only [stkCells, h4, List.getElem?_cons_succ, show j * 4 + 1 + 1 + 1 + 1 + 1 = j * 4 + 1 + 1 + 1 + 1 + 1 from rfl]
  exact ih
def KeepIt (n₀ Bs : Nat) (W W' : World) : Prop := Below n₀ W W' ∧ (Bs < W.heap.size → W'.heap[Bs]? = W.heap[Bs]?)
theorem KeepIt.refl (n₀ Bs : Nat) (W : World) : KeepIt n₀ Bs W W := ⟨Below.refl _ _, fun _ => rfl⟩
theorem KeepIt.trans {n₀ Bs : Nat} {A B C : World} (h : KeepIt n₀ Bs A B) (k : KeepIt n₀ Bs B C) : KeepIt n₀ Bs A C :=
 ⟨h.1.trans k.1, fun hb => (k.2 (Nat.lt_of_lt_of_le hb h.1.size)).trans (h.2 hb)⟩
set_option maxRecDepth 100000 in
set_option maxHeartbeats 2000000 in
theorem back1_in (F : Fence) (n : Nat) (hf : F.fn 79) (hro : F.round = none) (hn : 1 ≤ n) (l Bs n₀ : Nat) (sa : Option Addr) (gb cap : Nat) (qs : List (Tm × Value × Nat)) (hq : qs.length ≤ 1000) (hgb : qs ≠ [] → sa = some ⟨gb, 0, none⟩ ∧ gb < n₀)
  (J Jx : List (Fin qs.length) → World → Prop)
  (hY : ∀ pre x W, J pre W → pre.length < qs.length → YieldAt F (n - 1) Tryz.prog l (encPassed qs x) W fun e W' =>
   (e = .returned (.bool true) ∧ J (pre ++ [x]) W' ∧ KeepIt n₀ Bs W W') ∨ (e = .returned (.bool false) ∧ Jx (pre ++ [x]) W'))
  (W : World) (hBs : W.heap[Bs]? = some (.cells #[.slice sa qs.length cap] 54 (0, 0))) (hc : ∀ j u, (stkCells qs)[j]? = some u → W.cell? ⟨gb, j, none⟩ = some u) (h0 : J [] W) :
  CallsIn F n Tryz.prog 79 #[.func (.yield l) #[] #[], .pointer (some ⟨Bs, 0, none⟩)] W fun e W' => (∃ v, e = .returned v) ∧
   ((∃ ys, ys = fromTop qs.length qs.length ∧ J ys W') ∨ (∃ pre, (∃ k, k ≤ qs.length ∧ pre = fromTop qs.length k) ∧ Jx pre W')) := by
 obtain ⟨hzs, hb0', -⟩ := block_of_cells hBs
 have hb0 : W.cell? ⟨Bs, 0, none⟩ = some (.slice sa qs.length cap) := hb0' 0
 have hlen1 : IntKind.i64.wrap ((qs.length : Int) - 1) = (qs.length : Int) - 1 := IntWalk.i64_in _ (by omega)
 refine callsIn_of_wp Tryz.func79 rfl hf ?_ hro
 simp only [Tryz.ntmps79, List.size_toArray, List.length_cons, List.length_nil, Nat.reduceAdd, Nat.reduceSub, Array.replicate_succ, Array.replicate_zero, List.push_toArray, List.append_toArray, List.nil_append, List.cons_append]
 gi_wp2
 gi_loopw [3] (fun i wr => ∃ k : Nat, k ≤ qs.length ∧ i = .int .i64 ((qs.length : Int) - 1 - k) ∧ J (fromTop qs.length k) wr ∧ KeepIt n₀ Bs W wr)
  (fun i _ => (intOf i + 1).toNat)
 case atStart => exact ⟨0, Nat.zero_le _, by congr 1; omega, h0, KeepIt.refl _ _ _⟩
 case round =>
  obtain ⟨k, hk, rfl, hJs, hnx⟩ := hrel
  have hbr := (hnx.2 hzs).trans hBs
  obtain ⟨hzr, hbr0, -⟩ := block_of_cells hbr
  have hb1 : wr.cell? ⟨Bs, 0, none⟩ = some (.slice sa qs.length cap) := hbr0 0
  clear hb0 hbr hbr0 hb0'
  by_cases hlt : k < qs.length
  ·obtain ⟨j, hj⟩ : ∃ j : Nat, j = qs.length - 1 - k := ⟨_, rfl⟩
   have hjl : j < qs.length := by omega
   have hji : (qs.length : Int) - 1 - k = (j : Int) := by omega
   obtain ⟨rfl, hgb0⟩ := hgb (by intro e; rw [e] at hlt; simp at hlt)
   obtain ⟨fn, tmps, assign, body, hy, hR⟩ := hY _ ⟨j, hjl⟩ wr hJs (by rw [fromTop_length hk]; exact hlt)
   rw [← fromTop_succ hlt hj] at hR
   obtain ⟨g0, g1, g2, g3⟩ := stkCells_get qs j hjl
   have c0 := (hnx.1.cell (p := ⟨gb, j * 4, none⟩) hgb0).trans (hc _ _ g0)
   have c1 := (hnx.1.cell (p := ⟨gb, j * 4 + 1, none⟩) hgb0).trans (hc _ _ g1)
   have c2 := (hnx.1.cell (p := ⟨gb, j * 4 + 2, none⟩) hgb0).trans (hc _ _ g2)
   have c3 := (hnx.1.cell (p := ⟨gb, j * 4 + 3, none⟩) hgb0).trans (hc _ _ g3)
   unfold encPassed at hy
   dsimp only at hy
   have hj0 : (0 : Int) ≤ (j : Int) := by omega
   have hjli : (j : Int) < (qs.length : Int) := by omega
   have hwr : IntKind.i64.wrap ((j : Int) - 1) = (j : Int) - 1 := IntWalk.i64_in _ (by omega)
   rw [hji]
   have HJ := tuck hj
   have HJI := tuck hji
   clear g0 g1 g2 g3 hj hji
   generalize entry qs j = E at *
   gi_wp2
   refine hR.mono ?_
   rintro e W3 (⟨rfl, hJ3, hk3⟩ | ⟨rfl, hJx3⟩)
   ·have HJ3 := tuck hJ3
    have HK3 := tuck (hnx.trans hk3)
    clear hJ3 hk3 hy hR
    gi_wp2
    go_roundw
    case rel =>
     refine ⟨k + 1, ?_, ?_, HJ3.out, HK3.out⟩
     ·omega
     ·have := HJI.out
      first | rfl | (congr 1; omega)
    case measure =>
     simp [intOf]
     try omega
   ·have HJ3 := tuck hJx3
    clear hJx3 hy hR
    gi_wp2
    refine bodyPost_ret (results_none rfl _ _ _) rfl ?_
    exact ⟨⟨_, rfl⟩, .inr ⟨_, ⟨k + 1, by omega, rfl⟩, HJ3.out⟩⟩
  ·have e : k = qs.length := by omega
   subst e
   have hneg : ¬ (0 : Int) ≤ (qs.length : Int) - 1 - (qs.length : Int) := by omega
   gi_wp2
   go_end0
   first | exact ⟨⟨_, rfl⟩, .inl ⟨_, rfl, hJs⟩⟩ | exact ⟨⟨_, rfl⟩, .inl hJs⟩
end Go.Proofs.YtlbikgnanabjgaaGreat
namespace Go.Proofs.YtlbikgnanabjgaaGreat
open Go.RowKit
set_option maxRecDepth 100000 in
theorem cloneRow_any (r : List (Tm × Value)) (w : World) (b o cap : Nat) (hne : r ≠ []) (hl : r.length ≤ 100000) (hcell : ∀ j u, (cellsL r)[j]? = some u → w.cell? ⟨b, o + j, none⟩ = some u) (hin : ∀ u ∈ cellsL r, u.oneCell' = true) :
  Calls Tryz.prog 68 #[.slice (some ⟨b, o, none⟩) r.length cap] w fun e w' => Below w.heap.size w w' ∧ ∃ (g c : Nat) (cs : Array Value), e = .returned (.slice (some ⟨g, 0, none⟩) r.length c) ∧ w.heap.size ≤ g ∧ w'.heap[g]? = some (.cells cs 25 (0, 0)) ∧ ∀ (j : Nat) (u : Value), (cellsL r)[j]? = some u → cs[j]? = some u := by
 obtain ⟨i0, hi, hz0, hz1, hz2⟩ := info_parts info_term'
 have HC := tuck hcell
 have HIN := tuck hin
 have HI := tuck hi
 have HZ0 := tuck hz0
 have HZ1 := tuck hz1
 have HZ2 := tuck hz2
 have hpos : 0 < r.length := List.length_pos_iff.2 hne
 have hlt : b < w.heap.size := by
  cases r with
  | nil => exact absurd rfl hne
  | cons x r => exact World.block_lt_of_cell? w _ (HC.out 0 _ rfl)
 clear hcell hin hi hz0 hz1 hz2
 have hnil : ∀ W : World, (binOp BinOp.eql 23 (.slice (some ⟨b, o, none⟩) r.length cap) (.slice none 0 0)).run Tryz.prog W = .ok (.bool false) W := fun W => by
  first | kernel_rfl | rfl | (simp [binOp, go_sem]; done)
 go_enter Tryz.func68, Tryz.ntmps68
 go_wp2_with (at_builtin; refine wpList_append_own _ rfl (.tmp 5) (.tmp 6) 23 rfl w.heap.size 25 i0 _ 3 40 Tryz.underlying23 HI.out HZ0.out HZ1.out HZ2.out rfl (by decide) (.slice (some ⟨w.heap.size, 0, none⟩) 0 0) 0 [] rfl ?own ⟨b, o, none⟩ r.length cap (cellsL r) rfl ?len ?cells ?one ?c63 ?cby ?cbase ?next)
 case own =>
  have := World.ownsRow_made w #[] 0 (base := w.heap.size) (e := 25) (size := 3) (by simp) (by simp [maxLen]) rfl
  simpa using this
 case len => rw [cellsL_length]
 case cells =>
  intro j u hu
  have := HC.out j u hu
  have ea : (Addr.mk b o none).add j = ⟨b, o + j, none⟩ := by unfold Addr.add; split <;> simp_all
  rw [ea]
  exact ((below1 w _).cell (p := ⟨b, o + j, none⟩) hlt).trans this
 case one => exact HIN.out
 case c63 => simp [maxLen]; omega
 case cby => omega
 case cbase => simp
 case next =>
  intro v' w' hown hgrow _
  have hbel : Below w.heap.size w w' := (below1 w _).grown hgrow (by simp) (fun g hg => by simp [Value.ownBlock] at hg; omega)
  rcases hown.2 with ⟨_, h0⟩ | ⟨g, c, cur, rfl, hg, hgc, hnc, hcm, hcs, htake⟩
  ·omega
  have HBEL := tuck hbel
  have HGC := tuck hgc
  have HTK := tuck htake
  clear hbel hown hgrow hgc htake hcs hcm hnc
  go_wp2_with fail
  go_ret
  refine ⟨HBEL.out, g, c, cur, ?_, hg, HGC.out, fun j u hu => ?_⟩
  ·simp
  ·have h1 := HTK.out
   have h2 : j < r.length * 3 := by have := (List.getElem?_eq_some_iff.1 hu).1; rwa [cellsL_length] at this
   rw [← Array.getElem?_toList]
   have h3 : (cur.toList.take (r.length * 3))[j]? = some u := by
    rw [h1]
    exact hu
   rwa [List.getElem?_take_of_lt h2] at h3
end Go.Proofs.YtlbikgnanabjgaaGreat
namespace Go.Proofs.YtlbikgnanabjgaaGreat
open Go.RowKit Go.Shelf
attribute [local go_sem] Oper.semAt_some
def putIn (e : Tm × Value × Nat) (T : Tm) : Tm := .mk e.1.kind e.1.num (e.1.kids.set e.2.2 T)
def PassX (w : World) (X : Nat → Prop) : List (Tm × Nat) → List (Tm × Value × Nat) → Prop
 | [], [] => True
 | (t, i) :: p, (t', s, i') :: q => t' = t ∧ i' = i ∧ i < t.kids.length ∧ t.kids.length ≤ 4 ∧ SlX w X t.kids s ∧ PassX w X p q
 | _, _ => False
theorem PassX.fold {w : World} {X : Nat → Prop} : ∀ {p : List (Tm × Nat)} {qs : List (Tm × Value × Nat)}, PassX w X p qs → ∀ x, qs.foldr putIn x = around p x
 | [], [], _, _ => rfl
 | (t, i) :: p, (t', s, i') :: q, h, x => by
  obtain ⟨rfl, rfl, -, -, -, h⟩ := h
  rw [List.foldr_cons, PassX.fold h, around]
  rfl
 | [], _ :: _, h, _ => by cases h
 | _ :: _, [], h, _ => by cases h
theorem PassX.entry {w : World} {X : Nat → Prop} : ∀ {p : List (Tm × Nat)} {qs : List (Tm × Value × Nat)}, PassX w X p qs → ∀ j, j < qs.length → (Go.Proofs.YtlbikgnanabjgaaGreat.entry qs j).2.2 < (Go.Proofs.YtlbikgnanabjgaaGreat.entry qs j).1.kids.length ∧ (Go.Proofs.YtlbikgnanabjgaaGreat.entry qs j).1.kids.length ≤ 4 ∧ SlX w X (Go.Proofs.YtlbikgnanabjgaaGreat.entry qs j).1.kids (Go.Proofs.YtlbikgnanabjgaaGreat.entry qs j).2.1
 | [], [], _, j, h => by simp at h
 | (t, i) :: p, (t', s, i') :: q, h, 0, _ => by
  obtain ⟨rfl, rfl, a, b, c, -⟩ := h
  exact ⟨a, b, c⟩
 | (t, i) :: p, (t', s, i') :: q, h, j + 1, hj => PassX.entry (p := p) (qs := q) h.2.2.2.2.2 j (by simpa using hj)
 | [], _ :: _, h, _, _ => by cases h
 | _ :: _, [], h, _, _ => by cases h
theorem fold_fin (qs : List (Tm × Value × Nat)) (x : Tm) : (fromTop qs.length qs.length).foldl (fun T j => putIn (entry qs j.1) T) x = qs.foldr putIn x := by
 rw [fromTop_all, List.foldl_reverse]
 have h : (List.finRange qs.length).map (fun j => entry qs j.1) = qs := by
  apply List.ext_getElem
  ·simp
  ·intro i h1 h2
   simp [entry]
 conv => rhs; rw [← h]
 rw [List.foldr_map]
theorem cellsL_get : ∀ (r : List (Tm × Value)) (j : Nat) (hj : j < r.length), (cellsL r)[j * 3]? = some (.int .i64 r[j].1.kind) ∧ (cellsL r)[j * 3 + 1]? = some (.int .i64 r[j].1.num) ∧ (cellsL r)[j * 3 + 2]? = some r[j].2
 | [], j, h => by simp at h
 | (t, s) :: r, 0, _ => ⟨rfl, rfl, rfl⟩
 | (t, s) :: r, j + 1, h => by
  have ih := cellsL_get r j (by simpa using h)
  have h3 : (j + 1) * 3 = j * 3 + 1 + 1 + 1 := by omega
  simp only [cellsL, h3, List.getElem?_cons_succ, List.getElem_cons_succ]
  exact ih
theorem SlX.list {w : World} {X : Nat → Prop} {l : List Tm} {b o cap : Nat} (h : SlX w X l (.slice (some ⟨b, o, none⟩) l.length cap)) (hne : l ≠ []) : ∃ r : List (Tm × Value), r.map (·.1) = l ∧ (∀ j u, (cellsL r)[j]? = some u → w.cell? ⟨b, o + j, none⟩ = some u) ∧ ∀ x ∈ r, SlX w X x.1.kids x.2 := by
 obtain ⟨a, cap', b', o', e, h1, h2, h3⟩ := h
 obtain ⟨rfl, -⟩ := h2 hne
 simp only [Value.slice.injEq, Option.some.injEq, Addr.mk.injEq, and_true, true_and] at e
 obtain ⟨⟨rfl, rfl⟩, rfl⟩ := e
 obtain ⟨r, hr, hc, hx⟩ := h3.list
 exact ⟨r, hr, fun j u hu => (mask_cell.1 (hc j u hu)).2, fun x hx' => hx x hx'⟩
theorem row_putX {r : List (Tm × Value)} {W0 W : World} {Y : Nat → Prop} {g cap i : Nat} {cs : Array Value} {T : Tm} {s : Value}
  (hg : W.heap[g]? = some (.cells cs 25 (0, 0))) (hc : ∀ (j : Nat) (u : Value), (cellsL r)[j]? = some u → cs[j]? = some u) (_hi : i < r.length) (hl : r.length ≤ maxLen) (hY : ¬ Y g) (hb : Below W0.heap.size W0 W) (h0 : W0.heap.size ≤ g)
  (hx : ∀ x ∈ r, SlX W0 Y x.1.kids x.2) (hs : SlX W0 Y T.kids s) :
  SlX (((W.setCell ⟨g, i * 3, none⟩ (.int .i64 T.kind)).setCell ⟨g, i * 3 + 1, none⟩ (.int .i64 T.num)).setCell ⟨g, i * 3 + 2, none⟩ s) Y ((r.map (·.1)).set i T) (.slice (some ⟨g, 0, none⟩) r.length cap) := by
 have hB := bSet3 hb h0 (i * 3) (i * 3 + 1) (i * 3 + 2) (.int .i64 T.kind) (.int .i64 T.num) s
 have hblk := block_set (block_set (block_set hg (i * 3) (.int .i64 T.kind)) (i * 3 + 1) (.int .i64 T.num)) (i * 3 + 2) s
 obtain ⟨b1, b2, -⟩ := block_of_cells hblk
 have hlen : ((r.map (·.1)).set i T).length = r.length := by simp
 rw [← hlen]
 refine SlX.mk (by rw [hlen]; exact hl) hY fun j hj => ?_
 rw [hlen] at hj
 rw [Nat.zero_add]
 obtain ⟨k0, k1, k2⟩ := cellsL_get r j hj
 have c0 := hc _ _ k0
 have c1 := hc _ _ k1
 have c2 := hc _ _ k2
 have z2 := (Array.getElem?_eq_some_iff.1 c2).1
 by_cases e : i = j
 ·subst e
  have hT : ((r.map (·.1)).set i T)[i]'(by rw [hlen]; exact hj) = T := by simp
  rw [hT]
  refine ⟨s, (b2 _).trans ?_, (b2 _).trans ?_, (b2 _).trans ?_, hs.below hB⟩
  ·simp [Array.getElem?_setIfInBounds]; omega
  ·simp [Array.getElem?_setIfInBounds]; omega
  ·simp [Array.getElem?_setIfInBounds]; omega
 ·have hT : ((r.map (·.1)).set i T)[j]'(by rw [hlen]; exact hj) = r[j].1 := by rw [List.getElem_set_ne e, List.getElem_map]
  rw [hT]
  have e0 : i * 3 + 2 ≠ j * 3 := by omega
  have e1 : i * 3 + 1 ≠ j * 3 := by omega
  have e2 : i * 3 ≠ j * 3 := by omega
  have e3 : i * 3 + 2 ≠ j * 3 + 1 := by omega
  have e4 : i * 3 + 1 ≠ j * 3 + 1 := by omega
  have e5 : i * 3 ≠ j * 3 + 1 := by omega
  have e6 : i * 3 + 2 ≠ j * 3 + 2 := by omega
  have e7 : i * 3 + 1 ≠ j * 3 + 2 := by omega
  have e8 : i * 3 ≠ j * 3 + 2 := by omega
  refine ⟨r[j].2, (b2 _).trans ?_, (b2 _).trans ?_, (b2 _).trans ?_, (hx _ (List.getElem_mem hj)).below hB⟩
  ·rw [Array.getElem?_setIfInBounds_ne e0, Array.getElem?_setIfInBounds_ne e1, Array.getElem?_setIfInBounds_ne e2]; exact c0
  ·rw [Array.getElem?_setIfInBounds_ne e3, Array.getElem?_setIfInBounds_ne e4, Array.getElem?_setIfInBounds_ne e5]; exact c1
  ·rw [Array.getElem?_setIfInBounds_ne e6, Array.getElem?_setIfInBounds_ne e7, Array.getElem?_setIfInBounds_ne e8]; exact c2
theorem SlX.one {w : World} {X : Nat → Prop} {r : List (Tm × Value)} (h : ∀ x ∈ r, SlX w X x.1.kids x.2) : ∀ u ∈ cellsL r, u.oneCell' = true := cellsL_one (B := 0) (w := mask w X) h
theorem backward_any (w : World) (sa : Option Addr) (m cap : Nat) : Calls Tryz.prog 67 #[.slice sa m cap] w fun e w' => e = .returned (.func (.func 79) #[] #[.pointer (some ⟨w.heap.size, 0, none⟩)]) ∧ w' = w.alloc (.cells #[.slice sa m cap] 54) := by
 go_enter Tryz.func67, Tryz.ntmps67
 go_wp2_with fail
 go_ret
 exact ⟨rfl, rfl⟩
theorem back_stops (F : Fence) (n : Nat) (hf : F.fn 79) (hro : F.round = none) (hn : 1 ≤ n) (Bs n₀ : Nat) (sa : Option Addr) (gb cap : Nat) (qs : List (Tm × Value × Nat)) (hq : qs.length ≤ 1000) (hgb : qs ≠ [] → sa = some ⟨gb, 0, none⟩ ∧ gb < n₀)
  (w : World) (hBs : w.heap[Bs]? = some (.cells #[.slice sa qs.length cap] 54 (0, 0))) (hc : ∀ j u, (stkCells qs)[j]? = some u → w.cell? ⟨gb, j, none⟩ = some u) :
  SeqStopsK F n Tryz.prog 79 #[.pointer (some ⟨Bs, 0, none⟩)] (encPassed qs) (KeepIt n₀ Bs) (fun ys => ys = fromTop qs.length qs.length) (fun pre => ∃ k, k ≤ qs.length ∧ pre = fromTop qs.length k) qs.length w := fun l J Jx W hW _ _ hY h0 => by
 have hb := (hW.block Bs (block_of_cells hBs).1).trans hBs
 refine back1_in F n hf hro hn l Bs n₀ sa gb cap qs hq hgb J Jx hY W hb (fun j u hu => ?_) h0
 have h1 := hc j u hu
 exact (hW.cell (World.block_lt_of_cell? w _ h1)).trans h1
theorem keepsFrom_of_below {W W2 : World} (h : Below W.heap.size W W2) (B : Nat) : KeepsFrom B W W2 := ⟨h.size, fun k _ _ hk _ => (h.block k (Array.getElem?_eq_some_iff.1 hk).1).trans hk⟩
theorem keepsFrom_set {W W2 : World} {B : Nat} (h : KeepsFrom B W W2) (p : Addr) (v : Value) : KeepsFrom B W (W2.setCell p v) := h.trans ((KeepsOthers.setCell W2 p v).from B)
theorem KeepIt.set {n₀ Bs : Nat} {W W2 : World} (h : KeepIt n₀ Bs W W2) {p : Addr} (h1 : n₀ ≤ p.block) (h2 : Bs ≠ p.block) (v : Value) : KeepIt n₀ Bs W (W2.setCell p v) :=
 ⟨h.1.setCell h1 v, fun hb => (Below.heap_setCell W2 p v Bs h2).trans (h.2 hb)⟩
theorem keepIt_b {n₀ Bs : Nat} {w : World} (hn : n₀ ≤ w.heap.size) (hs : Bs < w.heap.size) (W : World) (l : Nat) (o o' : Obj) (hl : w.heap.size ≤ l) (h : W.heap[l]? = some o) (h1 : o.isCells = false) (h2 : o.isWalk = false) : KeepIt n₀ Bs W (W.putObj l o') :=
 ⟨belowK_b hn W l o o' hl h h1 h2, fun _ => World.putObj_heap_other (by omega)⟩
theorem SlX.other {X : Nat → Prop} {l : List Tm} {v : Value} {A B : World} {row : Option Nat} (h : SlX A X l v) (hg : A.grownBy B row) (hr : ∀ r, row = some r → ∃ o : Obj, A.heap[r]? = some o ∧ o.isCells = false) : SlX B X l v :=
 h.to fun _ _ hn hc => ⟨hn, cell_kept hc hg hr⟩
theorem VarAt.other {g : Nat} {k n : Int} {s : Value} {A B : World} {row : Option Nat} (h : VarAt g k n s A) (hg : A.grownBy B row) (hr : ∀ r, row = some r → ∃ o : Obj, A.heap[r]? = some o ∧ o.isCells = false) : VarAt g k n s B :=
 h.grown hg fun e => by
  obtain ⟨o, ho, hc⟩ := hr g e.symm
  rw [show A.heap[g]? = _ from h] at ho
  cases ho
  cases hc
def soFar (qs : List (Tm × Value × Nat)) (x : Tm) (pre : List (Fin qs.length)) : Tm := pre.foldl (fun T j => putIn (entry qs j.1) T) x
def RoundAt (w : World) (Y : Nat → Prop) (qs : List (Tm × Value × Nat)) (x : Tm) (pre : List (Fin qs.length)) (W : World) : Prop :=
 (w.heap.size + 3 ≤ W.heap.size ∧ VarAt (w.heap.size + 1) 0 0 (.slice none 0 0) W) ∧ ∃ s, VarAt w.heap.size (soFar qs x pre).kind (soFar qs x pre).num s W ∧ SlX W Y (soFar qs x pre).kids s
def ArndPost (X : Nat → Prop) (w : World) (T : Tm) (e : Ending) (w' : World) : Prop :=
 Below w.heap.size w w' ∧ ∃ (a : Option Addr) (c : Nat), e = .returned (.agg #[.int .i64 T.kind, .int .i64 T.num, .slice a T.kids.length c]) ∧ SlX w' X T.kids (.slice a T.kids.length c)
set_option maxRecDepth 100000 in
set_option maxHeartbeats 4000000 in
theorem around_any (w : World) (X : Nat → Prop) (hX : ∀ i, X i → i < w.heap.size) (p : List (Tm × Nat)) (qs : List (Tm × Value × Nat)) (hp : PassX w X p qs) (hq : qs.length ≤ 1000) (sa : Option Addr) (gb cap : Nat) (hgb : qs ≠ [] → sa = some ⟨gb, 0, none⟩ ∧ gb < w.heap.size)
  (hc : ∀ j u, (stkCells qs)[j]? = some u → w.cell? ⟨gb, j, none⟩ = some u) (T0 : Tm) (s0 : Value) (hs : SlX w X T0.kids s0) :
  Calls Tryz.prog 59 #[.slice sa qs.length cap, .agg #[.int .i64 T0.kind, .int .i64 T0.num, s0]] w (ArndPost X w (around p T0)) := by
 obtain ⟨a0, c0, rfl⟩ := hs.form
 have hfold := hp.fold T0
 have hent := hp.entry
 refine (callsIn_wide (n := 3)).1 ?_
 refine callsIn_of_wp_marks Tryz.func59 rfl trivial ?_ rfl
 simp only [Tryz.ntmps59, List.size_toArray, List.length_cons, List.length_nil, Nat.reduceAdd, Nat.reduceSub, Array.replicate_succ, Array.replicate_zero, List.push_toArray, List.append_toArray, List.nil_append, List.cons_append]
 gi_wp2_with (refine ⟨trivial, ?_⟩; gi_at_call 67; refine (callsIn_wide.2 (backward_any _ _ _ _)).mono ?_; rintro e w' ⟨rfl, rfl⟩)
 have hB0 := below3 w (.cells #[.int .i64 T0.kind, .int .i64 T0.num, .slice a0 T0.kids.length c0] 25) (.cells #[.int .i64 0, .int .i64 0, .slice none 0 0] 25) (.cells #[.slice sa qs.length cap] 54)
 have hV0 := ((VarAt.new w T0.kind T0.num (.slice a0 T0.kids.length c0)).below (below1 _ (.cells #[.int .i64 0, .int .i64 0, .slice none 0 0] 25))).below (below1 _ (.cells #[.slice sa qs.length cap] 54))
 have hV1 := (var_new1 w (.cells #[.int .i64 T0.kind, .int .i64 T0.num, .slice a0 T0.kids.length c0] 25) 0 0 (.slice none 0 0)).below (below1 _ (.cells #[.slice sa qs.length cap] 54))
 have hS := heap_new ((w.alloc (.cells #[.int .i64 T0.kind, .int .i64 T0.num, .slice a0 T0.kids.length c0] 25)).alloc (.cells #[.int .i64 0, .int .i64 0, .slice none 0 0] 25)) (.cells #[.slice sa qs.length cap] 54)
 rw [show ((w.alloc (.cells #[.int .i64 T0.kind, .int .i64 T0.num, .slice a0 T0.kids.length c0] 25)).alloc (.cells #[.int .i64 0, .int .i64 0, .slice none 0 0] 25)).heap.size = w.heap.size + 1 + 1 by simp] at hS
 have hsz : (((w.alloc (.cells #[.int .i64 T0.kind, .int .i64 T0.num, .slice a0 T0.kids.length c0] 25)).alloc (.cells #[.int .i64 0, .int .i64 0, .slice none 0 0] 25)).alloc (.cells #[.slice sa qs.length cap] 54)).heap.size = w.heap.size + 3 := by simp
 have hX0 := hs.widen hB0 (w.heap.size + 3)
 generalize ((w.alloc (.cells #[.int .i64 T0.kind, .int .i64 T0.num, .slice a0 T0.kids.length c0] 25)).alloc (.cells #[.int .i64 0, .int .i64 0, .slice none 0 0] 25)).alloc (.cells #[.slice sa qs.length cap] 54) = W0 at *
 refine wpIn_rangeFunc_ownH rfl (by omega) (gf := 79) (lb := #[.pointer (some ⟨w.heap.size + 1 + 1, 0, none⟩)]) rfl trivial (enters_of Tryz.func79 (by kernel_rfl) rfl)
  (back_stops Fence.wide _ trivial rfl (by omega) (w.heap.size + 1 + 1) w.heap.size sa gb cap qs hq hgb W0 hS (fun j u hu => (hB0.cell (World.block_lt_of_cell? w _ (hc j u hu))).trans (hc j u hu))) KeepIt.trans (keepIt_b (by omega) (by omega)) (Below.refl _ _) (fun _ => by rfl)
  (fun pre W => RoundAt w (With X w (w.heap.size + 3)) qs T0 pre W ∧ Below w.heap.size w W)
  (fun _ _ _ => False)
  (OwnFrom.and (Own.from (fun pre A B row hs hg hr => by
   obtain ⟨h1, s, h2, h3⟩ := hs
   exact ⟨⟨Nat.le_trans h1.1 hg.size, h1.2.other hg hr⟩, s, h2.other hg hr, h3.other hg hr⟩) _) (ownFrom_below (Nat.le_refl _) (by omega)))
  (fun _ _ _ _ _ hs _ _ => hs)
  ⟨⟨⟨by omega, hV1⟩, _, hV0, hX0⟩, hB0⟩
  (fun x a' W => ∃ Bx, w.heap.size + 3 ≤ Bx ∧ W.heap[Bx]? = some (.cells #[.int .i64 (entry qs x.1).1.kind, .int .i64 (entry qs x.1).1.num, (entry qs x.1).2.1, .int .i64 ((entry qs x.1).2.2 : Int)] 103 (0, 0)) ∧ a' = { tmps := #[.slice sa qs.length cap, .agg #[.int .i64 T0.kind, .int .i64 T0.num, .slice a0 T0.kids.length c0], undef, .pointer (some ⟨w.heap.size, 0, none⟩), .pointer (some ⟨w.heap.size + 1, 0, none⟩), undef, .pointer (some ⟨Bx, 0, none⟩), undef, .slice sa qs.length cap, .func (.func 79) #[] #[.pointer (some ⟨w.heap.size + 1 + 1, 0, none⟩)], .int .i64 (x.1 : Int), .agg #[.int .i64 (entry qs x.1).1.kind, .int .i64 (entry qs x.1).1.num, (entry qs x.1).2.1, .int .i64 ((entry qs x.1).2.2 : Int)], undef, undef, undef, undef, undef, undef, undef, undef, undef, undef, undef, undef, undef, undef, undef, undef, undef, undef], defers := [] })
  (fun x a' _ A B row hs hg hr => by
   obtain ⟨Bx, h1, h2, h3⟩ := hs
   exact ⟨Bx, h1, (hg.block Bx (Array.getElem?_eq_some_iff.1 h2).1 (fun e => by
    obtain ⟨-, o, ho, hc⟩ := hr Bx e.symm
    rw [h2] at ho
    cases ho
    cases hc)).trans h2, h3⟩)
  ?assign ?body ?done ?stop
 case assign =>
  rintro l pre x W K ⟨hI, hBW⟩ hK
  obtain ⟨-, -, hsl⟩ := hent x.1 x.2
  obtain ⟨ea, ec, hE⟩ := hsl.form
  unfold encPassed
  rw [hE] at hK ⊢
  gi_wp2
  exact hK _ _ ((KeepsOthers.alloc _ _).from _) ⟨(Below.refl _ W).alloc hBW.size _, fun hb => Below.heap_alloc _ _ _ hb⟩ ⟨⟨⟨Nat.le_trans hI.1.1 (below1 W _).size, hI.1.2.below (below1 _ _)⟩, _, hI.2.choose_spec.1.below (below1 _ _), hI.2.choose_spec.2.below (below1 _ _)⟩, hBW.alloc hBW.size _⟩ ⟨W.heap.size, hI.1.1, heap_new W _, rfl⟩
 case body =>
  rintro l pre x a' W hl ⟨r0, hr0⟩ ⟨⟨⟨hsz3, hres⟩, s, hpart, hsl⟩, hBW⟩ ⟨Bx, hBx, hbox, rfl⟩ hlt
  obtain ⟨hix, h4, hks⟩ := hent x.1 x.2
  have hfs : soFar qs T0 (pre ++ [x]) = putIn (entry qs x.1) (soFar qs T0 pre) := by simp [soFar]
  have HFS := tuck hfs
  clear hfs
  generalize soFar qs T0 pre = T at *
  generalize entry qs x.1 = E at *
  obtain ⟨t, v, i⟩ := E
  dsimp only at hix h4 hks hbox ⊢
  have hne : t.kids ≠ [] := by intro e; rw [e] at hix; simp at hix
  have hkW := hks.widen hBW (w.heap.size + 3)
  obtain ⟨ea, ec, eb, eo, rfl, -, hrw, -⟩ := hkW.open
  obtain ⟨rfl, -, heb⟩ := hrw hne
  obtain ⟨rs, hrs, hcell, hrx⟩ := hkW.list hne
  have hlen : t.kids.length = rs.length := by rw [← hrs, List.length_map]
  obtain ⟨ps, pc, rfl⟩ := hsl.form
  rw [hlen] at hbox ⊢
  obtain ⟨hzb, hcb, -⟩ := block_of_cells hbox
  have b0 : W.cell? ⟨Bx, 0, none⟩ = some (.int .i64 t.kind) := hcb 0
  have b1 : W.cell? ⟨Bx, 1, none⟩ = some (.int .i64 t.num) := hcb 1
  have b2 : W.cell? ⟨Bx, 2, none⟩ = some (.slice (some ⟨eb, eo, none⟩) rs.length ec) := hcb 2
  have b3 : W.cell? ⟨Bx, 3, none⟩ = some (.int .i64 (i : Int)) := hcb 3
  obtain ⟨zp, p0, p1, p2, pf⟩ := hpart.facts
  have hi0 : (0 : Int) ≤ (i : Int) := by omega
  have hil : (i : Int) < (rs.length : Int) := by omega
  have h1 : 1 ≤ 3 - 1 - 1 := by omega
  have HCL := tuck (cloneRow_any rs W eb eo ec (by intro e; rw [e] at hlen; simp at hlen; exact hne hlen) (by omega) hcell (SlX.one hrx))
  have HSL := tuck hsl
  have HRX := tuck hrx
  have HBOX := tuck hbox
  have HPART := tuck hpart
  have HRES := tuck hres
  have HBW := tuck hBW
  clear hsl hrx hbox hpart hres hBW hrw hcell hkW hks hcb
  gi_wp2_with fail
  refine ⟨trivial, ?_⟩
  refine (CallsIn.inRound l (callsIn_wide.2 HCL.out)).mono ?_
  rintro e w2 ⟨hb2, g, c, cs, rfl, hg, hgc, hcs⟩
  obtain ⟨zb2, db, -⟩ := block_of_cells ((hb2.block Bx hzb).trans HBOX.out)
  have b0 : w2.cell? ⟨Bx, 0, none⟩ = some (.int .i64 t.kind) := db 0
  have b1 : w2.cell? ⟨Bx, 1, none⟩ = some (.int .i64 t.num) := db 1
  have b3 : w2.cell? ⟨Bx, 3, none⟩ = some (.int .i64 (i : Int)) := db 3
  obtain ⟨zp, p0, p1, p2, pf⟩ := (HPART.out.below hb2).facts
  obtain ⟨zg, dg, fg⟩ := block_of_cells hgc
  obtain ⟨k0, k1, k2⟩ := cellsL_get rs i (by omega)
  have g0 := (dg _).trans (hcs _ _ k0)
  have g1 := (dg _).trans (hcs _ _ k1)
  have g2 := (dg _).trans (hcs _ _ k2)
  have hn1 : Bx ≠ g := by omega
  have hn2 : g ≠ Bx := by omega
  have hn3 : w.heap.size ≠ g := by omega
  have hn4 : g ≠ w.heap.size := by omega
  have HB2 := tuck hb2
  have HGC := tuck hgc
  have HCS := tuck hcs
  clear hb2 hgc hcs db dg k0 k1 k2
  gi_wp2
  have hT : (putIn (t, .slice (some ⟨eb, eo, none⟩) t.kids.length ec, i) T).kids.length = rs.length := by show (t.kids.set i T).length = _; rw [List.length_set, hlen]
  have hkeep : Below W.heap.size W (((w2.setCell ⟨g, i * 3, none⟩ (.int .i64 T.kind)).setCell ⟨g, i * 3 + 1, none⟩ (.int .i64 T.num)).setCell ⟨g, i * 3 + 2, none⟩ (.slice ps T.kids.length pc)) := bSet3 HB2.out hg _ _ _ _ _ _
  have hrow := row_putX (Y := With X w (w.heap.size + 3)) (cap := c) (T := T) (s := .slice ps T.kids.length pc) HGC.out HCS.out (i := i) (by omega) (by unfold maxLen; omega) (fun h => by rcases h with h | h; (have := hX _ h; omega); omega) HB2.out hg HRX.out HSL.out
  rw [hrs] at hrow
  refine ⟨keepsFrom_set (keepsFrom_set (keepsFrom_set (keepsFrom_set (keepsFrom_set (keepsFrom_set (keepsFrom_of_below HB2.out _) _ _) _ _) _ _) _ _) _ _) _ _, ?_, ?_⟩
  ·have hk0 : KeepIt w.heap.size (w.heap.size + 1 + 1) W w2 := ⟨HB2.out.mono (by omega), fun hb => HB2.out.block _ hb⟩
   have e1 : w.heap.size ≤ g := by omega
   have e2 : w.heap.size + 1 + 1 ≠ g := by omega
   have e3 : w.heap.size + 1 + 1 ≠ w.heap.size := by omega
   exact (((((hk0.set e1 e2 _).set e1 e2 _).set e1 e2 _).set (Nat.le_refl _) e3 _).set (Nat.le_refl _) e3 _).set (Nat.le_refl _) e3 _
  ·dsimp only
   unfold RoundAt
   rw [show soFar qs T0 (pre ++ [x]) = _ from HFS.out]
   refine ⟨⟨⟨?_, ?_⟩, .slice (some ⟨g, 0, none⟩) rs.length c, ?_, ?_⟩, ?_⟩
   ·have := HB2.out.size
    rw [size_set3, size_set3]
    omega
   ·exact ((HRES.out.below HB2.out).far3 (by omega) _ _ _ _ _ _).far3 (by omega) _ _ _ _ _ _
   ·exact VarAt.set ((HPART.out.below HB2.out).far3 hn3 _ _ _ _ _ _)
   ·exact hrow.set3 (Or.inr ⟨Nat.le_refl _, by omega⟩) _ _ _ _ _ _
   ·exact bSet3 (bSet3 (bAfter HBW.out HB2.out) (by omega) _ _ _ _ _ _) (Nat.le_refl _) _ _ _ _ _ _
 case done =>
  rintro D ys W hD rfl ⟨⟨⟨hsz3, hres⟩, s, hpart, hsl⟩, hBW⟩ hK
  have hfin : soFar qs T0 (fromTop qs.length qs.length) = around p T0 := by rw [soFar, fold_fin, hfold]
  rw [hfin] at hpart hsl
  generalize around p T0 = T at *
  obtain ⟨ps, pc, rfl⟩ := hsl.form
  obtain ⟨zp, p0, p1, p2, pf⟩ := hpart.facts
  obtain ⟨zr, r0, r1, r2, rf⟩ := hres.facts
  have HSL := tuck hsl
  have HBW := tuck hBW
  have HRES := tuck hres
  clear hsl hBW hpart hres
  gi_wp2
  have hK' := ((KeepsOthers.setCell W ⟨w.heap.size + 1, 0, none⟩ (.int .i64 T.kind)).trans ((KeepsOthers.setCell _ ⟨w.heap.size + 1, 1, none⟩ (.int .i64 T.num)).trans (KeepsOthers.setCell _ ⟨w.heap.size + 1, 2, none⟩ (.slice ps T.kids.length pc)))).same D _ hK rfl
  refine ⟨by simp, .inl ⟨_, _, rfl, run_takeDeferred hK', ?_⟩⟩
  have hgr := grownBy_putObj' (((W.setCell ⟨w.heap.size + 1, 0, none⟩ (.int .i64 T.kind)).setCell ⟨w.heap.size + 1, 1, none⟩ (.int .i64 T.num)).setCell ⟨w.heap.size + 1, 2, none⟩ (.slice ps T.kids.length pc)) D (.deferred none)
  have hrow : ∀ r, some D = some r → ∃ o : Obj, (((W.setCell ⟨w.heap.size + 1, 0, none⟩ (.int .i64 T.kind)).setCell ⟨w.heap.size + 1, 1, none⟩ (.int .i64 T.num)).setCell ⟨w.heap.size + 1, 2, none⟩ (.slice ps T.kids.length pc)).heap[r]? = some o ∧ o.isCells = false := fun r e => by cases e; exact ⟨_, hK', rfl⟩
  obtain ⟨-, y0, y1, y2, -⟩ := ((VarAt.set (k' := T.kind) (n' := T.num) (s' := .slice ps T.kids.length pc) HRES.out).other hgr hrow).facts
  have HS1 := tuck ((HSL.out.set3 (g := w.heap.size + 1) (Or.inr ⟨by omega, by omega⟩) 0 1 2 (.int .i64 T.kind) (.int .i64 T.num) (.slice ps T.kids.length pc)).other hgr hrow)
  have HB1 := tuck ((bSet3 HBW.out (Nat.le_succ _) 0 1 2 (.int .i64 T.kind) (.int .i64 T.num) (.slice ps T.kids.length pc)).trans (belowK_b (w := w) (Nat.le_refl _) _ D _ (.deferred none) (by omega) hK' rfl rfl))
  clear hgr hrow hK'
  refine ⟨.agg #[.int .i64 T.kind, .int .i64 T.num, .slice ps T.kids.length pc], by simp [results, Tryz.results59, go_sem, *], HB1.out, ps, pc, rfl, HS1.out.narrow fun i h => Or.inl h⟩
 case stop =>
  rintro D c pre W _ _ h _
  exact h.elim
end Go.Proofs.YtlbikgnanabjgaaGreat
