/-
  PlR.
-/
import Derived.Test.YtihlbbbajaepoaaP11
import Derived.Test.YtihlbbbajaepoaaP34
import Derived.LoopIn
import Derived.LoopNIn
import Derived.OwnWalkIn
import Derived.TacticsInMore
namespace Go.Proofs.Ytihlbbbajaepoaa
open Go.RowKit Go.Shelf
attribute [local go_sem] Oper.semAt_some
theorem rounds_of {F : Fence} {n : Nat} {P : Program} {c : Code} {Q : Exit → Act → World → Prop} {R : Nat → Act → World → Prop} (h0 : ∀ a w, ¬ R 0 a w) (h : ∀ m a w, R (m + 1) a w → c.wpIn F n P (Exit.then (R m) Q) a w) : ∀ m a w, R m a w → Code.roundsIn F n P c Q m a w
 | 0, a, w, hr => absurd hr (h0 a w)
 | m + 1, a, w, hr => by
  rw [roundsIn_succ]
  refine wpIn_mono (h m a w hr) ?_
  intro e a' w' he
  cases e with
  | normal => exact rounds_of h0 h m a' w' he
  | ret => exact he
  | exit id => exact he
  | goto t => exact he
  | panic ch => exact he
  | outgrown => exact he
theorem Step.new {w : World} (o : Obj) : Step (fun _ => False) w (w.alloc o) (fun i => i = w.heap.size ∨ (Value.slice none 0 0).ownBlock = some i) :=
 ⟨rfl, rfl, rfl, (below1 w o).size, fun i hi _ => (below1 w o).block i hi, fun i hi h => (by
  rcases h with h | h
  ·omega
  ·cases h), fun i h => (by
  rcases h with h | h
  ·rw [h]; simp
  ·cases h)⟩
def PartAt (u : World) (t : Tm) (k : Nat) (g : Nat) (M : Nat → Prop) (w : World) : Prop := ∃ y, (t.nodesFrom [])[k]? = some y ∧ CurAt u g y.2 y.1 M w
set_option maxRecDepth 100000 in
set_option maxHeartbeats 2000000 in
theorem parts_in (n : Nat) (hn : 2 ≤ n) (u w0 : World) (hu0 : Below u.heap.size u w0) (t : Tm) (hv : t.Valid) (s : Value) (b1 : Nat) (hb : VarAt b1 t.kind t.num s w0) (hs : SlIn u 0 t.kids s) :
  SeqCells Fence.wide n Try.prog 72 #[.pointer (some ⟨b1, 0, none⟩)] t.size (fun g : Nat => #[.pointer (some ⟨g, 0, none⟩)]) (PartAt u t) w0 := by
 intro l J W hW hstep hY hJ0
 obtain ⟨a, c, rfl⟩ := hs.form
 obtain ⟨z, d0, d1, d2, df⟩ := (hb.below hW).facts
 have hlenN := t.nodes_len []
 have hrun := t.nodes_run []
 have hok := hv.nodes
 have hcur := CurAt.new u W t _ (bAfter hu0 hW) hs
 have hst0 := Step.new (w := W) (.cells #[.int .i64 t.kind, .int .i64 t.num, .slice a t.kids.length c, .slice none 0 0] 87)
 have hJ1 := hstep 0 _ _ _ _ hJ0 hst0
 obtain ⟨M0, hM0⟩ : ∃ M0 : Nat → Prop, M0 = (fun i => i = W.heap.size ∨ (Value.slice none 0 0).ownBlock = some i) := ⟨_, rfl⟩
 rw [← hM0] at hcur hJ1
 have HCUR := tuck hcur
 have HJ1 := tuck hJ1
 clear hb hs hcur hst0 hJ1 hJ0 hM0
 refine callsIn_of_wp Try.func72 rfl trivial ?_ rfl
 simp only [Try.ntmps72, List.size_toArray, List.length_cons, List.length_nil, Nat.reduceAdd, Nat.reduceSub, Array.replicate_succ, Array.replicate_zero, List.push_toArray, List.append_toArray, List.nil_append, List.cons_append]
 gi_wp2_with fail
 generalize W.alloc (.cells #[.int .i64 t.kind, .int .i64 t.num, .slice a t.kids.length c, .slice none 0 0] 87) = W2 at *
 generalize W.heap.size = g at *
 have hpos := t.size_pos
 refine wpIn_loop_rounds t.size (rounds_of (R := fun m a' w' => ∃ (k : Nat) (M : Nat → Prop) (x7 x8 x9 x10 x11 x12 x13 : Value), k + m = t.size ∧ 1 ≤ m ∧ J k M w' ∧ PartAt u t k g M w' ∧
   a' = { tmps := #[.func (.yield l) #[] #[], .pointer (some ⟨b1, 0, none⟩), undef, .pointer (some ⟨g, 0, none⟩), .agg #[.int .i64 t.kind, .int .i64 t.num, .slice a t.kids.length c], .agg #[.int .i64 t.kind, .int .i64 t.num, .slice a t.kids.length c, .slice none 0 0], .pointer (some ⟨g, 0, none⟩), x7, x8, x9, x10, x11, x12, x13], defers := [] }) ?zero ?step t.size _ _ ?start)
 case zero =>
  rintro a' w' ⟨k, M, _, _, _, _, _, _, _, -, h, -⟩
  omega
 case start =>
  obtain ⟨L, hL⟩ := nodesFrom_head t []
  exact ⟨0, M0, _, _, _, _, _, _, _, by omega, hpos, HJ1.out, ⟨([], t), by rw [hL]; rfl, HCUR.out⟩, rfl⟩
 case step =>
  rintro m a' wr ⟨k, M, x7, x8, x9, x10, x11, x12, x13, hkm, -, hJk, ⟨y, hyk, hC⟩, rfl⟩
  have hk : k < (t.nodesFrom []).length := by omega
  have hyg : (t.nodesFrom [])[k] = y := by
   rw [List.getElem?_eq_getElem hk] at hyk
   simpa using hyk
  obtain ⟨fn, tmps, assign, body, hy, hR⟩ := hY k M g wr (by omega) hJk ⟨y, hyk, hC⟩
  have hyo := hok y (by rw [← hyg]; exact List.getElem_mem hk)
  have hnx : nextAt y = (t.nodesFrom [])[k + 1]? := by
   by_cases h1 : k + 1 < (t.nodesFrom []).length
   ·rw [← hyg, hrun.get k h1, List.getElem?_eq_getElem h1]
   ·rw [← hyg, hrun.last k hk (by omega), List.getElem?_eq_none (by omega)]
    rfl
  clear hC
  gi_wp2
  refine ⟨fun _ => by omega, hR.mono ?_⟩
  rintro e W3 ⟨rfl, hJ3, y', hy', hC3⟩
  obtain rfl : y = y' := by
   rw [hyk] at hy'
   simpa using hy'
  have HN := tuck (cur_next_any hyo.1 hyo.2.1 hyo.2.2.1 (by have := hyo.short hv; omega) hC3)
  have HJ3 := tuck hJ3
  clear hy hR hJ3 hC3 hJk
  gi_wp2_with fail
  refine ⟨trivial, ?_⟩
  refine ⟨fun _ => by omega, (callsIn_wide.2 HN.out).mono ?_⟩
  intro e W4 hnext
  rw [show (y.1, y.2) = y from rfl, hnx] at hnext
  by_cases h1 : k + 1 < (t.nodesFrom []).length
  ·rw [List.getElem?_eq_getElem h1] at hnext
   obtain ⟨rfl, M4, hst4, hC4⟩ := hnext
   have HJ4 := tuck (hstep _ _ _ _ _ HJ3.out hst4)
   have HC4 := tuck hC4
   clear hst4 hC4 HN HJ3
   gi_wp2_with fail
   exact ⟨k + 1, M4, _, _, _, _, _, _, _, by omega, by omega, HJ4.out, ⟨_, List.getElem?_eq_getElem h1, HC4.out⟩, rfl⟩
  ·rw [List.getElem?_eq_none (by omega)] at hnext
   obtain ⟨rfl, M4, hst4, x4, hC4⟩ := hnext
   have HJ4 := tuck (hstep _ _ _ _ _ HJ3.out hst4)
   have hkN : k + 1 = t.size := by omega
   rw [hkN] at HJ4
   clear hst4 hC4 HN HJ3
   gi_wp2_with fail
   go_end0
   exact ⟨⟨_, rfl⟩, M4, HJ4.out⟩
end Go.Proofs.Ytihlbbbajaepoaa
