/-
  TeleB.
-/
import Derived.Test.YtakdfpoigjgcnaaB34
import Derived.LoopIn
import Derived.LoopNIn
import Derived.OwnWalkIn
import Derived.RangeFuncBound
import Derived.RangeFuncCalls
import Derived.RangeFuncLeaves
import Derived.RangeFuncNested
import Derived.Shelf.Abstract
import Derived.Shelf.RegionOpen
import Derived.TacticsInMore
import Derived.WalkKit
namespace Go.Proofs.Ytakdfpoigjgcnaa
open Go.RowKit Go.Shelf
attribute [local go_sem] Oper.semAt_some
def tlEntry (qs : List (Tm × Value)) (j : Nat) : Tm × Value := qs[j]?.getD (zeroT, .slice none 0 0)
theorem tlEntry_get {qs : List (Tm × Value)} {j : Nat} (h : j < qs.length) : tlEntry qs j = qs[j] := by simp [tlEntry, h]
def tlTop (n k : Nat) : List (Fin n) := (List.finRange n).reverse.take k
theorem tlTop_length {n k : Nat} (h : k ≤ n) : (tlTop n k).length = k := by simp [tlTop]; omega
theorem tlTop_succ {n k j : Nat} (h : k < n) (hj : j = n - 1 - k) : tlTop n (k + 1) = tlTop n k ++ [⟨j, by omega⟩] := by
 unfold tlTop
 rw [List.take_succ_eq_append_getElem (by simpa using h)]
 congr 2
 rw [List.getElem_reverse]
 apply Fin.ext
 simp [hj]
theorem tlTop_all (n : Nat) : tlTop n n = (List.finRange n).reverse := by
 unfold tlTop
 rw [List.take_of_length_le (by simp)]
def encTerm (qs : List (Tm × Value)) (j : Fin qs.length) : Array Value := #[.int .i64 (j.1 : Int), .agg #[.int .i64 (tlEntry qs j.1).1.kind, .int .i64 (tlEntry qs j.1).1.num, (tlEntry qs j.1).2]]
theorem tl_cells : ∀ (r : List (Tm × Value)) (j : Nat), j < r.length → (cellsL r)[j * 3]? = some (.int .i64 (tlEntry r j).1.kind) ∧ (cellsL r)[j * 3 + 1]? = some (.int .i64 (tlEntry r j).1.num) ∧ (cellsL r)[j * 3 + 2]? = some (tlEntry r j).2
 | [], j, h => by simp at h
 | (t, s) :: r, 0, _ => ⟨rfl, rfl, rfl⟩
 | (t, s) :: r, j + 1, h => by
  have ih := tl_cells r j (by simpa using h)
  have h3 : (j + 1) * 3 = j * 3 + 1 + 1 + 1 := by omega
  have e : tlEntry ((t, s) :: r) (j + 1) = tlEntry r j := rfl
  rw [e]
  simp only [cellsL, h3, List.getElem?_cons_succ]
  exact ih
def TlKeep (n₀ Bs : Nat) (W W' : World) : Prop := Below n₀ W W' ∧ (Bs < W.heap.size → W'.heap[Bs]? = W.heap[Bs]?)
theorem TlKeep.refl (n₀ Bs : Nat) (W : World) : TlKeep n₀ Bs W W := ⟨Below.refl _ _, fun _ => rfl⟩
theorem TlKeep.trans {n₀ Bs : Nat} {A B C : World} (h : TlKeep n₀ Bs A B) (k : TlKeep n₀ Bs B C) : TlKeep n₀ Bs A C :=
 ⟨h.1.trans k.1, fun hb => (k.2 (Nat.lt_of_lt_of_le hb h.1.size)).trans (h.2 hb)⟩
set_option maxRecDepth 100000 in
set_option maxHeartbeats 2000000 in
theorem tl_back1 (F : Fence) (n : Nat) (hf : F.fn 56) (hro : F.round = none) (hn : 1 ≤ n) (l Bs n₀ : Nat) (sa : Option Addr) (gb go cap : Nat) (qs : List (Tm × Value)) (hq : qs.length ≤ 1000) (hgb : qs ≠ [] → sa = some ⟨gb, go, none⟩ ∧ gb < n₀)
  (J Jx : List (Fin qs.length) → World → Prop)
  (hY : ∀ pre x W, J pre W → pre.length < qs.length → YieldAt F (n - 1) Try.prog l (encTerm qs x) W fun e W' =>
   (e = .returned (.bool true) ∧ J (pre ++ [x]) W' ∧ TlKeep n₀ Bs W W') ∨ (e = .returned (.bool false) ∧ Jx (pre ++ [x]) W'))
  (W : World) (hBs : W.heap[Bs]? = some (.cells #[.slice sa qs.length cap] 55 (0, 0))) (hc : ∀ j u, (cellsL qs)[j]? = some u → W.cell? ⟨gb, go + j, none⟩ = some u) (h0 : J [] W) :
  CallsIn F n Try.prog 56 #[.func (.yield l) #[] #[], .pointer (some ⟨Bs, 0, none⟩)] W fun e W' => (∃ v, e = .returned v) ∧
   ((∃ ys, ys = tlTop qs.length qs.length ∧ J ys W') ∨ (∃ pre, (∃ k, k ≤ qs.length ∧ pre = tlTop qs.length k) ∧ Jx pre W')) := by
 obtain ⟨hzs, hb0', -⟩ := block_of_cells hBs
 have hb0 : W.cell? ⟨Bs, 0, none⟩ = some (.slice sa qs.length cap) := hb0' 0
 have hlen1 : IntKind.i64.wrap ((qs.length : Int) - 1) = (qs.length : Int) - 1 := IntWalk.i64_in _ (by omega)
 refine callsIn_of_wp Try.func56 rfl hf ?_ hro
 simp only [Try.ntmps56, List.size_toArray, List.length_cons, List.length_nil, Nat.reduceAdd, Nat.reduceSub, Array.replicate_succ, Array.replicate_zero, List.push_toArray, List.append_toArray, List.nil_append, List.cons_append]
 gi_wp2
 gi_loopw [3] (fun i wr => ∃ k : Nat, k ≤ qs.length ∧ i = .int .i64 ((qs.length : Int) - 1 - k) ∧ J (tlTop qs.length k) wr ∧ TlKeep n₀ Bs W wr)
  (fun i _ => (intOf i + 1).toNat)
 case atStart => exact ⟨0, Nat.zero_le _, by congr 1; omega, h0, TlKeep.refl _ _ _⟩
 case round =>
  obtain ⟨k, hk, rfl, hJs, hnx⟩ := hrel
  have hbr := (hnx.2 hzs).trans hBs
  obtain ⟨hzr, hbr0, -⟩ := block_of_cells hbr
  have hb1 : wr.cell? ⟨Bs, 0, none⟩ = some (.slice sa qs.length cap) := hbr0 0
  clear hb0 hbr hbr0 hb0'
  by_cases hlt : k < qs.length
  ·obtain ⟨j, hj⟩ : ∃ j : Nat, j = qs.length - 1 - k := ⟨_, rfl⟩
   have hjl : j < qs.length := by omega
   have hji : (qs.length : Int) - 1 - k = (j : Int) := by omega
   obtain ⟨rfl, hgb0⟩ := hgb (by intro e; rw [e] at hlt; simp at hlt)
   obtain ⟨fn, tmps, assign, body, hy, hR⟩ := hY _ ⟨j, hjl⟩ wr hJs (by rw [tlTop_length hk]; exact hlt)
   rw [← tlTop_succ hlt hj] at hR
   obtain ⟨g0, g1, g2⟩ := tl_cells qs j hjl
   have c0 := (hnx.1.cell (p := ⟨gb, go + j * 3, none⟩) hgb0).trans (hc _ _ g0)
   have c1 := (hnx.1.cell (p := ⟨gb, go + j * 3 + 1, none⟩) hgb0).trans (hc _ _ g1)
   have c2 := (hnx.1.cell (p := ⟨gb, go + j * 3 + 2, none⟩) hgb0).trans (hc _ _ g2)
   unfold encTerm at hy
   dsimp only at hy
   have hj0 : (0 : Int) ≤ (j : Int) := by omega
   have hjli : (j : Int) < (qs.length : Int) := by omega
   have hwr : IntKind.i64.wrap ((j : Int) - 1) = (j : Int) - 1 := IntWalk.i64_in _ (by omega)
   rw [hji]
   have HJ := tuck hj
   have HJI := tuck hji
   clear g0 g1 g2 hj hji
   generalize tlEntry qs j = E at *
   gi_wp2
   refine hR.mono ?_
   rintro e W3 (⟨rfl, hJ3, hk3⟩ | ⟨rfl, hJx3⟩)
   ·have HJ3 := tuck hJ3
    have HK3 := tuck (hnx.trans hk3)
    clear hJ3 hk3 hy hR
    gi_wp2
    go_roundw
    case rel =>
     refine ⟨k + 1, ?_, ?_, HJ3.out, HK3.out⟩
     ·omega
     ·have := HJI.out
      first | rfl | (congr 1; omega)
    case measure =>
     simp [intOf]
     try omega
   ·have HJ3 := tuck hJx3
    clear hJx3 hy hR
    gi_wp2
    refine bodyPost_ret (results_none rfl _ _ _) rfl ?_
    exact ⟨⟨_, rfl⟩, .inr ⟨_, ⟨k + 1, by omega, rfl⟩, HJ3.out⟩⟩
  ·have e : k = qs.length := by omega
   subst e
   have hneg : ¬ (0 : Int) ≤ (qs.length : Int) - 1 - (qs.length : Int) := by omega
   gi_wp2
   go_end0
   first | exact ⟨⟨_, rfl⟩, .inl ⟨_, rfl, hJs⟩⟩ | exact ⟨⟨_, rfl⟩, .inl hJs⟩
theorem tl_backward (w : World) (sa : Option Addr) (m cap : Nat) : Calls Try.prog 50 #[.slice sa m cap] w fun e w' => e = .returned (.func (.func 56) #[] #[.pointer (some ⟨w.heap.size, 0, none⟩)]) ∧ w' = w.alloc (.cells #[.slice sa m cap] 55) := by
 go_enter Try.func50, Try.ntmps50
 go_wp2_with fail
 go_ret
 exact ⟨rfl, rfl⟩
theorem tl_stops (F : Fence) (n : Nat) (hf : F.fn 56) (hro : F.round = none) (hn : 1 ≤ n) (Bs n₀ : Nat) (sa : Option Addr) (gb go cap : Nat) (qs : List (Tm × Value)) (hq : qs.length ≤ 1000) (hgb : qs ≠ [] → sa = some ⟨gb, go, none⟩ ∧ gb < n₀)
  (w : World) (hBs : w.heap[Bs]? = some (.cells #[.slice sa qs.length cap] 55 (0, 0))) (hc : ∀ j u, (cellsL qs)[j]? = some u → w.cell? ⟨gb, go + j, none⟩ = some u) :
  SeqStopsK F n Try.prog 56 #[.pointer (some ⟨Bs, 0, none⟩)] (encTerm qs) (TlKeep n₀ Bs) (fun ys => ys = tlTop qs.length qs.length) (fun pre => ∃ k, k ≤ qs.length ∧ pre = tlTop qs.length k) qs.length w := fun l J Jx W hW _ _ hY h0 => by
 have hb := (hW.block Bs (block_of_cells hBs).1).trans hBs
 refine tl_back1 F n hf hro hn l Bs n₀ sa gb go cap qs hq hgb J Jx hY W hb (fun j u hu => ?_) h0
 have h1 := hc j u hu
 exact (hW.cell (World.block_lt_of_cell? w _ h1)).trans h1
theorem tl_from_below {W W2 : World} (h : Below W.heap.size W W2) (B : Nat) : KeepsFrom B W W2 := ⟨h.size, fun k _ _ hk _ => (h.block k (Array.getElem?_eq_some_iff.1 hk).1).trans hk⟩
theorem tl_from_set {W W2 : World} {B : Nat} (h : KeepsFrom B W W2) (p : Addr) (v : Value) : KeepsFrom B W (W2.setCell p v) := h.trans ((KeepsOthers.setCell W2 p v).from B)
theorem TlKeep.set {n₀ Bs : Nat} {W W2 : World} (h : TlKeep n₀ Bs W W2) {p : Addr} (h1 : n₀ ≤ p.block) (h2 : Bs ≠ p.block) (v : Value) : TlKeep n₀ Bs W (W2.setCell p v) :=
 ⟨h.1.setCell h1 v, fun hb => (Below.heap_setCell W2 p v Bs h2).trans (h.2 hb)⟩
theorem tl_keep_b {n₀ Bs : Nat} {w : World} (hn : n₀ ≤ w.heap.size) (hs : Bs < w.heap.size) (W : World) (l : Nat) (o o' : Obj) (hl : w.heap.size ≤ l) (h : W.heap[l]? = some o) (h1 : o.isCells = false) (h2 : o.isWalk = false) : TlKeep n₀ Bs W (W.putObj l o') :=
 ⟨belowK_b hn W l o o' hl h h1 h2, fun _ => World.putObj_heap_other (by omega)⟩
theorem tl_other {X : Nat → Prop} {l : List Tm} {v : Value} {A B : World} {row : Option Nat} (h : SlX A X l v) (hg : A.grownBy B row) (hr : ∀ r, row = some r → ∃ o : Obj, A.heap[r]? = some o ∧ o.isCells = false) : SlX B X l v :=
 h.to fun _ _ hn hc => ⟨hn, cell_kept hc hg hr⟩
theorem tl_vother {g : Nat} {k n : Int} {s : Value} {A B : World} {row : Option Nat} (h : VarAt g k n s A) (hg : A.grownBy B row) (hr : ∀ r, row = some r → ∃ o : Obj, A.heap[r]? = some o ∧ o.isCells = false) : VarAt g k n s B :=
 h.grown hg fun e => by
  obtain ⟨o, ho, hc⟩ := hr g e.symm
  rw [show A.heap[g]? = _ from h] at ho
  cases ho
  cases hc
def tlSoFar (k : Int) (qs : List (Tm × Value)) (x : Tm) (pre : List (Fin qs.length)) : Tm := pre.foldl (fun T j => node2 k (tlEntry qs j.1).1 T) x
theorem tl_all (k : Int) (qs : List (Tm × Value)) (x : Tm) : tlSoFar k qs x (tlTop qs.length qs.length) = over k (qs.map (·.1)) x := by
 unfold tlSoFar
 rw [tlTop_all, List.foldl_reverse]
 have h : (List.finRange qs.length).map (fun j => (tlEntry qs j.1).1) = qs.map (·.1) := by
  apply List.ext_getElem
  ·simp
  ·intro i h1 h2
   simp [tlEntry]
 unfold over
 rw [← h, List.foldr_map]
def TlRound (w : World) (k : Int) (qs : List (Tm × Value)) (x : Tm) (pre : List (Fin qs.length)) (W : World) : Prop :=
 (w.heap.size + 4 ≤ W.heap.size ∧ W.heap[w.heap.size]? = some (.cells #[.int .i64 k] 3 (0, 0))) ∧ ∃ a c, VarAt (w.heap.size + 2) (tlSoFar k qs x pre).kind (tlSoFar k qs x pre).num (.slice a (tlSoFar k qs x pre).kids.length c) W ∧ SlX W (fun i => w.heap.size ≤ i ∧ i < w.heap.size + 4) (tlSoFar k qs x pre).kids (.slice a (tlSoFar k qs x pre).kids.length c)
set_option maxRecDepth 100000 in
set_option maxHeartbeats 4000000 in
theorem foldR_any (k : Int) (l : List Tm) (T0 : Tm) (w : World) (v s : Value) (hl : SlIn w 0 l v) (hs : SlIn w 0 T0.kids s) :
  Calls Try.prog 38 #[v, .int .i64 k, .agg #[.int .i64 T0.kind, .int .i64 T0.num, s]] w (ReplPost w (OverOk k l T0) (over k l T0)) := by
 obtain ⟨a0, c0, rfl⟩ := hs.form
 obtain ⟨sa, cap, gb, go, rfl, hlm, hp, hrow⟩ := hl
 unfold maxLen at hlm
 have HNO : Hid (¬ OverOk k l T0 → ∀ w', Below w.heap.size w w' → ReplPost w (OverOk k l T0) (over k l T0) (.returned (.tuple #[.agg #[.int .i64 0, .int .i64 0, .slice none 0 0], .bool false])) w') := tuck fun h w' hb => ReplPost.no h hb
 by_cases h8 : l.length ≤ 8
 rotate_left
 ·have hgt : (8 : Int) < (l.length : Int) := by omega
  have HN := tuck (HNO.out fun h => h8 h.1)
  generalize hpost : ReplPost w (OverOk k l T0) (over k l T0) = post at *
  clear hpost HNO hrow hp hs
  go_enter Try.func38, Try.ntmps38
  go_wp2_with fail
  refine bodyPost_ret (v := .tuple #[.agg #[.int .i64 0, .int .i64 0, .slice none 0 0], .bool false]) (by simp [results, Try.results38, go_sem, *]) rfl (HN.out _ ?_)
  first | exact bSet3 (below3 _ _ _ _) (by omega) _ _ _ _ _ _ | exact below3 _ _ _ _
 have hgt : ¬ (8 : Int) < (l.length : Int) := by omega
 obtain ⟨qs, rfl, hc, hin⟩ := hrow.list
 rw [List.length_map] at *
 refine (callsIn_wide (n := 3)).1 ?_
 refine callsIn_of_wp_marks Try.func38 rfl trivial ?_ rfl
 simp only [Try.ntmps38, List.size_toArray, List.length_cons, List.length_nil, Nat.reduceAdd, Nat.reduceSub, Array.replicate_succ, Array.replicate_zero, List.push_toArray, List.append_toArray, List.nil_append, List.cons_append]
 gi_wp2_with (refine ⟨trivial, ?_⟩; gi_at_call 50; refine (callsIn_wide.2 (tl_backward _ _ _ _)).mono ?_; rintro e w' ⟨rfl, rfl⟩)
 have hb4 := (below3 w (.cells #[.int .i64 k] 3) (.cells #[.int .i64 T0.kind, .int .i64 T0.num, .slice a0 T0.kids.length c0] 29) (.cells #[.int .i64 T0.kind, .int .i64 T0.num, .slice a0 T0.kids.length c0] 29)).alloc (by simp; omega) (.cells #[.slice sa qs.length cap] 55)
 have hV2 := (var_new2 w (.cells #[.int .i64 k] 3) (.cells #[.int .i64 T0.kind, .int .i64 T0.num, .slice a0 T0.kids.length c0] 29) T0.kind T0.num (.slice a0 T0.kids.length c0)).below (below1 _ (.cells #[.slice sa qs.length cap] 55))
 have hKB : ((((w.alloc (.cells #[.int .i64 k] 3)).alloc (.cells #[.int .i64 T0.kind, .int .i64 T0.num, .slice a0 T0.kids.length c0] 29)).alloc (.cells #[.int .i64 T0.kind, .int .i64 T0.num, .slice a0 T0.kids.length c0] 29)).alloc (.cells #[.slice sa qs.length cap] 55)).heap[w.heap.size]? = some (.cells #[.int .i64 k] 3) := by
  have h0 := heap_new w (.cells #[.int .i64 k] 3)
  have h1 := ((below3 (w.alloc (.cells #[.int .i64 k] 3)) (.cells #[.int .i64 T0.kind, .int .i64 T0.num, .slice a0 T0.kids.length c0] 29) (.cells #[.int .i64 T0.kind, .int .i64 T0.num, .slice a0 T0.kids.length c0] 29) (.cells #[.slice sa qs.length cap] 55)).block w.heap.size (by simp)).trans h0
  exact h1
 have hS := heap_new (((w.alloc (.cells #[.int .i64 k] 3)).alloc (.cells #[.int .i64 T0.kind, .int .i64 T0.num, .slice a0 T0.kids.length c0] 29)).alloc (.cells #[.int .i64 T0.kind, .int .i64 T0.num, .slice a0 T0.kids.length c0] 29)) (.cells #[.slice sa qs.length cap] 55)
 rw [show (((w.alloc (.cells #[.int .i64 k] 3)).alloc (.cells #[.int .i64 T0.kind, .int .i64 T0.num, .slice a0 T0.kids.length c0] 29)).alloc (.cells #[.int .i64 T0.kind, .int .i64 T0.num, .slice a0 T0.kids.length c0] 29)).heap.size = w.heap.size + 1 + 1 + 1 by simp] at hS
 have hsz : ((((w.alloc (.cells #[.int .i64 k] 3)).alloc (.cells #[.int .i64 T0.kind, .int .i64 T0.num, .slice a0 T0.kids.length c0] 29)).alloc (.cells #[.int .i64 T0.kind, .int .i64 T0.num, .slice a0 T0.kids.length c0] 29)).alloc (.cells #[.slice sa qs.length cap] 55)).heap.size = w.heap.size + 4 := by simp
 have hX0 := SlX.of_view (X := fun i => w.heap.size ≤ i ∧ i < w.heap.size + 4) hs (View.of_below hb4 (fun i hi => hi.1))
 have hgb : qs ≠ [] → sa = some ⟨gb, go, none⟩ ∧ gb < w.heap.size := fun hne => by
  refine ⟨(hp (by simpa using hne)).1, ?_⟩
  cases qs with
  | nil => exact absurd rfl hne
  | cons x r => exact World.block_lt_of_cell? w _ (hc 0 _ rfl)
 have hent : ∀ (x : Fin qs.length) (W : World), Below w.heap.size w W → SlX W (fun i => w.heap.size ≤ i ∧ i < w.heap.size + 4) (tlEntry qs x.1).1.kids (tlEntry qs x.1).2 := fun x W h => by
  rw [tlEntry_get x.2]
  exact SlX.of_view (X := fun i => w.heap.size ≤ i ∧ i < w.heap.size + 4) (hin _ (List.getElem_mem x.2)) (View.of_below h (fun i hi => hi.1))
 generalize ((((w.alloc (.cells #[.int .i64 k] 3)).alloc (.cells #[.int .i64 T0.kind, .int .i64 T0.num, .slice a0 T0.kids.length c0] 29)).alloc (.cells #[.int .i64 T0.kind, .int .i64 T0.num, .slice a0 T0.kids.length c0] 29)).alloc (.cells #[.slice sa qs.length cap] 55)) = W0 at *
 refine wpIn_rangeFunc_ownH rfl (by omega) (gf := 56) (lb := #[.pointer (some ⟨w.heap.size + 1 + 1 + 1, 0, none⟩)]) rfl trivial (enters_of Try.func56 (by kernel_rfl) rfl)
  (tl_stops Fence.wide _ trivial rfl (by omega) (w.heap.size + 1 + 1 + 1) w.heap.size sa gb go cap qs (by omega) hgb W0 hS (fun j u hu => (hb4.cell (World.block_lt_of_cell? w _ (hc j u hu))).trans (hc j u hu))) TlKeep.trans (tl_keep_b (by omega) (by omega)) (Below.refl _ _) (fun _ => by rfl)
  (fun pre W => TlRound w k qs T0 pre W ∧ Below w.heap.size w W)
  (fun _ _ _ => False)
  (OwnFrom.and (Own.from (fun pre A B row hs hg hr => by
   obtain ⟨h1, a, c, h2, h3⟩ := hs
   exact ⟨⟨Nat.le_trans h1.1 hg.size, (hg.block w.heap.size (block_of_cells h1.2).1 (fun e => by
    obtain ⟨o, ho, hc⟩ := hr _ e.symm
    rw [h1.2] at ho
    cases ho
    cases hc)).trans h1.2⟩, a, c, tl_vother h2 hg hr, tl_other h3 hg hr⟩) _) (ownFrom_below (Nat.le_refl _) (by omega)))
  (fun _ _ _ _ _ hs _ _ => hs)
  ⟨⟨⟨by omega, hKB⟩, a0, c0, hV2, hX0⟩, hb4⟩
  (fun x a' W => ∃ Bx, w.heap.size + 4 ≤ Bx ∧ W.heap[Bx]? = some (.cells #[.int .i64 (tlEntry qs x.1).1.kind, .int .i64 (tlEntry qs x.1).1.num, (tlEntry qs x.1).2] 29 (0, 0)) ∧ a' = { tmps := #[.slice sa qs.length cap, .int .i64 k, .agg #[.int .i64 T0.kind, .int .i64 T0.num, .slice a0 T0.kids.length c0], undef, .pointer (some ⟨w.heap.size, 0, none⟩), .pointer (some ⟨w.heap.size + 1, 0, none⟩), .pointer (some ⟨w.heap.size + 1 + 1, 0, none⟩), .bool false, undef, .pointer (some ⟨Bx, 0, none⟩), .slice sa qs.length cap, .int .i64 (qs.length : Int), .bool false, undef, .agg #[.int .i64 T0.kind, .int .i64 T0.num, .slice a0 T0.kids.length c0], .slice sa qs.length cap, .func (.func 56) #[] #[.pointer (some ⟨w.heap.size + 1 + 1 + 1, 0, none⟩)], .int .i64 (x.1 : Int), .agg #[.int .i64 (tlEntry qs x.1).1.kind, .int .i64 (tlEntry qs x.1).1.num, (tlEntry qs x.1).2], undef, undef, undef, undef, undef, undef, undef, undef, undef], defers := [] })
  (fun x a' _ A B row hs hg hr => by
   obtain ⟨Bx, h1, h2, h3⟩ := hs
   exact ⟨Bx, h1, (hg.block Bx (Array.getElem?_eq_some_iff.1 h2).1 (fun e => by
    obtain ⟨-, o, ho, hc⟩ := hr Bx e.symm
    rw [h2] at ho
    cases ho
    cases hc)).trans h2, h3⟩)
  ?assign ?body ?done ?stop
 case assign =>
  rintro l pre x W K ⟨hI, hBW⟩ hK
  have hsl := hent x W hBW
  obtain ⟨ea, ec, hE⟩ := hsl.form
  unfold encTerm
  rw [hE] at hK ⊢
  gi_wp2
  obtain ⟨h1, a, c, h2, h3⟩ := hI
  exact hK _ _ ((KeepsOthers.alloc _ _).from _) ⟨(Below.refl _ W).alloc hBW.size _, fun hb => Below.heap_alloc _ _ _ hb⟩ ⟨⟨⟨Nat.le_trans h1.1 (below1 W _).size, ((below1 W _).block _ (block_of_cells h1.2).1).trans h1.2⟩, a, c, h2.below (below1 _ _), h3.below (below1 _ _)⟩, hBW.alloc hBW.size _⟩ ⟨W.heap.size, h1.1, heap_new W _, rfl⟩
 case body =>
  rintro l pre x a' W hl ⟨r0, hr0⟩ ⟨⟨⟨hsz4, hkb⟩, ta, tc, hpart, hsl⟩, hBW⟩ ⟨Bx, hBx, hbox, rfl⟩ hlt
  have hfs : tlSoFar k qs T0 (pre ++ [x]) = node2 k (tlEntry qs x.1).1 (tlSoFar k qs T0 pre) := by simp [tlSoFar]
  have hex := hent x W hBW
  have HFS := tuck hfs
  clear hfs
  generalize tlSoFar k qs T0 pre = T at *
  generalize tlEntry qs x.1 = E at *
  obtain ⟨y, ys⟩ := E
  dsimp only at hex hbox HFS ⊢
  obtain ⟨ya, yc, rfl⟩ := hex.form
  obtain ⟨zb, hcb, -⟩ := block_of_cells hbox
  have b0 : W.cell? ⟨Bx, 0, none⟩ = some (.int .i64 y.kind) := hcb 0
  have b1 : W.cell? ⟨Bx, 1, none⟩ = some (.int .i64 y.num) := hcb 1
  have b2 : W.cell? ⟨Bx, 2, none⟩ = some (.slice ya y.kids.length yc) := hcb 2
  obtain ⟨zk, hck, -⟩ := block_of_cells hkb
  have k0 : W.cell? ⟨w.heap.size, 0, none⟩ = some (.int .i64 k) := hck 0
  obtain ⟨zp, p0, p1, p2, pf⟩ := hpart.facts
  have hw3 : (((W.setCell ⟨w.heap.size + 1 + 1, 0, none⟩ (.int .i64 k)).setCell ⟨w.heap.size + 1 + 1, 1, none⟩ (.int .i64 0)).setCell ⟨w.heap.size + 1 + 1, 2, none⟩ (.slice (some ⟨W.heap.size, 0, none⟩) 2 2)).heap.size = W.heap.size := size_set3 _ _ _ _ _ _ _ _
  have HW3 := tuck hw3
  obtain ⟨zq, q0, q1, q2, qf⟩ := (hpart.below (below1 W (.cells #[.int .i64 y.kind, .int .i64 y.num, .slice ya y.kids.length yc, .int .i64 T.kind, .int .i64 T.num, .slice ta T.kids.length tc] 29))).facts
  have hblk := heap_new (((W.setCell ⟨w.heap.size + 1 + 1, 0, none⟩ (.int .i64 k)).setCell ⟨w.heap.size + 1 + 1, 1, none⟩ (.int .i64 0)).setCell ⟨w.heap.size + 1 + 1, 2, none⟩ (.slice (some ⟨W.heap.size, 0, none⟩) 2 2)) (.cells #[.int .i64 y.kind, .int .i64 y.num, .slice ya y.kids.length yc, .int .i64 T.kind, .int .i64 T.num, .slice ta T.kids.length tc] 29)
  rw [hw3] at hblk
  have hbl := below1 (((W.setCell ⟨w.heap.size + 1 + 1, 0, none⟩ (.int .i64 k)).setCell ⟨w.heap.size + 1 + 1, 1, none⟩ (.int .i64 0)).setCell ⟨w.heap.size + 1 + 1, 2, none⟩ (.slice (some ⟨W.heap.size, 0, none⟩) 2 2)) (.cells #[.int .i64 y.kind, .int .i64 y.num, .slice ya y.kids.length yc, .int .i64 T.kind, .int .i64 T.num, .slice ta T.kids.length tc] 29)
  have hrow : SlX ((((W.setCell ⟨w.heap.size + 1 + 1, 0, none⟩ (.int .i64 k)).setCell ⟨w.heap.size + 1 + 1, 1, none⟩ (.int .i64 0)).setCell ⟨w.heap.size + 1 + 1, 2, none⟩ (.slice (some ⟨W.heap.size, 0, none⟩) 2 2)).alloc (.cells #[.int .i64 y.kind, .int .i64 y.num, .slice ya y.kids.length yc, .int .i64 T.kind, .int .i64 T.num, .slice ta T.kids.length tc] 29)) (fun i => w.heap.size ≤ i ∧ i < w.heap.size + 4) (node2 k y T).kids (.slice (some ⟨W.heap.size, 0, none⟩) (node2 k y T).kids.length 2) :=
   tl_row (X := fun i => w.heap.size ≤ i ∧ i < w.heap.size + 4) (cap := 2) (r := [(y, .slice ya y.kids.length yc), (T, .slice ta T.kids.length tc)]) hblk rfl (fun h => by have h2 := h.2; omega) (by simp) (fun z hz => by
    simp only [List.mem_cons, List.not_mem_nil, or_false] at hz
    rcases hz with rfl | rfl
    ·exact (hex.put (g := w.heap.size + 1 + 1) ⟨by omega, by omega⟩ _ _ _ _ _ _).below hbl
    ·exact (hsl.put (g := w.heap.size + 1 + 1) ⟨by omega, by omega⟩ _ _ _ _ _ _).below hbl)
  have HROW := tuck hrow
  have HBL := tuck hbl
  have HPART := tuck hpart
  have HKB := tuck hkb
  have HBW := tuck hBW
  clear hrow hbl hpart hkb hBW hbox hcb hck hblk hex hsl hent hw3
  gi_wp2
  have e3 : w.heap.size + 1 + 1 + 1 ≠ w.heap.size + 1 + 1 := by omega
  have e4 : w.heap.size ≤ w.heap.size + 1 + 1 := by omega
  have e5 : w.heap.size ≠ w.heap.size + 1 + 1 := by omega
  have hk1 : TlKeep w.heap.size (w.heap.size + 1 + 1 + 1) W (((W.setCell ⟨w.heap.size + 1 + 1, 0, none⟩ (.int .i64 k)).setCell ⟨w.heap.size + 1 + 1, 1, none⟩ (.int .i64 0)).setCell ⟨w.heap.size + 1 + 1, 2, none⟩ (.slice (some ⟨W.heap.size, 0, none⟩) 2 2)) := (((TlKeep.refl _ _ W).set (p := ⟨w.heap.size + 1 + 1, 0, none⟩) e4 e3 _).set (p := ⟨w.heap.size + 1 + 1, 1, none⟩) e4 e3 _).set (p := ⟨w.heap.size + 1 + 1, 2, none⟩) e4 e3 _
  have hk2 : TlKeep w.heap.size (w.heap.size + 1 + 1 + 1) (((W.setCell ⟨w.heap.size + 1 + 1, 0, none⟩ (.int .i64 k)).setCell ⟨w.heap.size + 1 + 1, 1, none⟩ (.int .i64 0)).setCell ⟨w.heap.size + 1 + 1, 2, none⟩ (.slice (some ⟨W.heap.size, 0, none⟩) 2 2)) ((((W.setCell ⟨w.heap.size + 1 + 1, 0, none⟩ (.int .i64 k)).setCell ⟨w.heap.size + 1 + 1, 1, none⟩ (.int .i64 0)).setCell ⟨w.heap.size + 1 + 1, 2, none⟩ (.slice (some ⟨W.heap.size, 0, none⟩) 2 2)).alloc (.cells #[.int .i64 y.kind, .int .i64 y.num, .slice ya y.kids.length yc, .int .i64 T.kind, .int .i64 T.num, .slice ta T.kids.length tc] 29)) := ⟨HBL.out.mono (by have := HW3.out; omega), fun hb => HBL.out.block _ hb⟩
  refine ⟨(tl_from_set (tl_from_set (tl_from_set (tl_from_below (Below.refl _ _) _) _ _) _ _) _ _).trans (tl_from_below HBL.out _), hk1.trans hk2, ?_⟩
  dsimp only
  unfold TlRound
  rw [show tlSoFar k qs T0 (pre ++ [x]) = _ from HFS.out]
  refine ⟨⟨⟨?_, ?_⟩, some ⟨W.heap.size, 0, none⟩, 2, ?_, ?_⟩, ?_⟩
  ·have := HBL.out.size
   have := HW3.out
   omega
  ·refine (HBL.out.block _ (by have := HW3.out; omega)).trans ?_
   rw [Below.heap_setCell _ _ _ _ e5, Below.heap_setCell _ _ _ _ e5, Below.heap_setCell _ _ _ _ e5]
   exact HKB.out
  ·exact (VarAt.set HPART.out).below HBL.out
  ·exact HROW.out
  ·exact bAfter (bSet3 HBW.out e4 _ _ _ _ _ _) HBL.out
 case done =>
  rintro D ys W hD rfl ⟨⟨⟨hsz4, hkb⟩, ta, tc, hpart, hsl⟩, hBW⟩ hK
  rw [tl_all] at hpart hsl
  have hzD := (Array.getElem?_eq_some_iff.1 hK).1
  have hP : tr (over k (qs.map (·.1)) T0).Valid = tr (OverOk k (qs.map (·.1)) T0) := tr_congr ⟨fun h => ⟨by simpa using h8, h⟩, fun h => h.2⟩
  have hO : orZero (over k (qs.map (·.1)) T0).Valid (over k (qs.map (·.1)) T0) = orZero (OverOk k (qs.map (·.1)) T0) (over k (qs.map (·.1)) T0) := by
   unfold orZero
   by_cases h : OverOk k (qs.map (·.1)) T0
   ·rw [if_pos h, if_pos h.2]
   ·rw [if_neg h, if_neg (fun h' => h ⟨by simpa using h8, h'⟩)]
  have HCC := tuck (checked_any _ W _ hsl.sl)
  unfold ReplPost at HCC
  rw [hP, hO] at HCC
  have HYES : Hid (∀ w' s F, Below w.heap.size w w' → SlOwn w' (orZero (OverOk k (qs.map (·.1)) T0) (over k (qs.map (·.1)) T0)).kids s F → F.Nodup → (∀ g ∈ F, w.heap.size ≤ g ∧ g < w'.heap.size) → ReplPost w (OverOk k (qs.map (·.1)) T0) (over k (qs.map (·.1)) T0) (.returned (.tuple #[.agg #[.int .i64 (orZero (OverOk k (qs.map (·.1)) T0) (over k (qs.map (·.1)) T0)).kind, .int .i64 (orZero (OverOk k (qs.map (·.1)) T0) (over k (qs.map (·.1)) T0)).num, s], .bool (tr (OverOk k (qs.map (·.1)) T0))])) w') := tuck fun w' s F hb hs hn hF => ⟨hb, _, rfl, s, F, rfl, hs, hn, hF⟩
  clear hP hO HNO
  generalize orZero (OverOk k (qs.map (·.1)) T0) (over k (qs.map (·.1)) T0) = R at HCC HYES
  generalize tr (OverOk k (qs.map (·.1)) T0) = ok at HCC HYES
  generalize over k (qs.map (·.1)) T0 = T at hpart hsl HCC
  obtain ⟨zp, p0, p1, p2, pf⟩ := hpart.facts
  have HPART := tuck hpart
  have HBW := tuck hBW
  have HKD := tuck hK
  clear hpart hBW hsl hkb hKB hX0 hent hS hV2 hb4 hrow hin hc hp hs
  gi_wp2_with fail
  refine ⟨trivial, ?_⟩
  refine (callsIn_wide.2 HCC.out).mono ?_
  rintro e w2 ⟨hb2, v, rfl, s2, F, rfl, hs2, hn2, hF2⟩
  obtain ⟨sa2, sc2, rfl⟩ := hs2.form
  have HS2 := tuck hs2
  have HN2 := tuck hn2
  have HF2 := tuck hF2
  have HG2 := tuck (HPART.out.below hb2)
  have HB2 := tuck hb2
  clear hb2 hs2 hn2 hF2 zp p0 p1 p2 pf
  obtain ⟨zp, p0, p1, p2, pf⟩ := HG2.out.facts
  gi_wp2
  have hK' : (((w2.setCell ⟨w.heap.size + 1 + 1, 0, none⟩ (.int .i64 R.kind)).setCell ⟨w.heap.size + 1 + 1, 1, none⟩ (.int .i64 R.num)).setCell ⟨w.heap.size + 1 + 1, 2, none⟩ (.slice sa2 R.kids.length sc2)).heap[D]? = some (.deferred (some [])) := by
   have e5 : D ≠ w.heap.size + 1 + 1 := by omega
   rw [Below.heap_setCell _ _ _ _ e5, Below.heap_setCell _ _ _ _ e5, Below.heap_setCell _ _ _ _ e5]
   exact (HB2.out.block _ hzD).trans HKD.out
  refine ⟨by simp, .inl ⟨_, _, rfl, run_takeDeferred hK', ?_⟩⟩
  have hgr := grownBy_putObj' (((w2.setCell ⟨w.heap.size + 1 + 1, 0, none⟩ (.int .i64 R.kind)).setCell ⟨w.heap.size + 1 + 1, 1, none⟩ (.int .i64 R.num)).setCell ⟨w.heap.size + 1 + 1, 2, none⟩ (.slice sa2 R.kids.length sc2)) D (.deferred none)
  have hrow : ∀ r, some D = some r → ∃ o : Obj, (((w2.setCell ⟨w.heap.size + 1 + 1, 0, none⟩ (.int .i64 R.kind)).setCell ⟨w.heap.size + 1 + 1, 1, none⟩ (.int .i64 R.num)).setCell ⟨w.heap.size + 1 + 1, 2, none⟩ (.slice sa2 R.kids.length sc2)).heap[r]? = some o ∧ o.isCells = false := fun r e => by cases e; exact ⟨_, hK', rfl⟩
  obtain ⟨-, y0, y1, y2, -⟩ := (tl_vother (VarAt.set (k' := R.kind) (n' := R.num) (s' := .slice sa2 R.kids.length sc2) HG2.out) hgr hrow).facts
  have hB1 := (bSet3 (bAfter HBW.out HB2.out) (show w.heap.size ≤ w.heap.size + 1 + 1 by omega) 0 1 2 (.int .i64 R.kind) (.int .i64 R.num) (.slice sa2 R.kids.length sc2)).trans (belowK_b (w := w) (Nat.le_refl _) _ D _ (.deferred none) (by omega) hK' rfl rfl)
  have hS1 := (HS2.out.set3 (g := w.heap.size + 1 + 1) (fun h => by have := (HF2.out _ h).1; omega) 0 1 2 (.int .i64 R.kind) (.int .i64 R.num) (.slice sa2 R.kids.length sc2)).keep (w' := World.putObj _ D (.deferred none)) (fun g hg => SameAt.of_block (World.putObj_heap_other (by have := (HF2.out g hg).1; omega)))
  have hZ1 : w2.heap.size ≤ (World.putObj (((w2.setCell ⟨w.heap.size + 1 + 1, 0, none⟩ (.int .i64 R.kind)).setCell ⟨w.heap.size + 1 + 1, 1, none⟩ (.int .i64 R.num)).setCell ⟨w.heap.size + 1 + 1, 2, none⟩ (.slice sa2 R.kids.length sc2)) D (.deferred none)).heap.size := by
   have := hgr.size
   rwa [size_set3] at this
  have HS1 := tuck hS1
  have HB1 := tuck hB1
  clear hgr hrow hK' hS1 hB1
  refine ⟨.tuple #[.agg #[.int .i64 R.kind, .int .i64 R.num, .slice sa2 R.kids.length sc2], .bool ok], by simp [results, Try.results38, go_sem, *], HYES.out _ _ F HB1.out HS1.out HN2.out (fun g hg => ?_)⟩
  have h1 := HF2.out g hg
  omega
 case stop =>
  rintro D c pre W _ _ h _
  exact h.elim
end Go.Proofs.Ytakdfpoigjgcnaa
