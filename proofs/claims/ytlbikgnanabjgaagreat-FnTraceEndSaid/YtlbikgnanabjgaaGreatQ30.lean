/-
  Stack.
-/
import Derived.Test.YtlbikgnanabjgaaGreatQ09
import Derived.Test.YtlbikgnanabjgaaGreatQ11
import Derived.Test.YtlbikgnanabjgaaGreatQ12
namespace Go.Proofs.YtlbikgnanabjgaaGreat
open Go.RowKit
def stkCells : List (Tm × Value × Nat) → List Value
 | [] => []
 | (t, s, i) :: r => .int .i64 t.kind :: .int .i64 t.num :: s :: .int .i64 i :: stkCells r
theorem stkCells_append : ∀ a b : List (Tm × Value × Nat), stkCells (a ++ b) = stkCells a ++ stkCells b
 | [], b => rfl
 | (t, s, i) :: a, b => by simp only [List.cons_append, stkCells, stkCells_append a b]
theorem stkCells_length : ∀ a : List (Tm × Value × Nat), (stkCells a).length = a.length * 4
 | [] => rfl
 | (t, s, i) :: a => by simp only [stkCells, List.length_cons, stkCells_length a]; omega
def StkAt (g o : Nat) (T : TypeId) (cs : Array Value) (ps : List (Tm × Value × Nat)) (M : Nat → Prop) (w : World) : Prop :=
 ps.length ≤ 100 ∧ ∃ v, w.heap[g]? = some (.cells (cs.setIfInBounds o v) T (0, 0)) ∧ o < cs.size ∧ w.ownsRow (g + 1) 103 4 v ps.length (stkCells ps) ∧ M = fun i => i = g ∨ v.ownBlock = some i
abbrev StackAt (g : Nat) (ps : List (Tm × Value × Nat)) (M : Nat → Prop) (w : World) : Prop := StkAt g 0 54 #[.slice none 0 0] ps M w
theorem StackAt.new (w : World) : StackAt w.heap.size [] (fun i => i = w.heap.size ∨ (Value.slice none 0 0).ownBlock = some i) (w.alloc (.cells #[.slice none 0 0] 54)) :=
 ⟨by simp, .slice none 0 0, by simpa using heap_new w (.cells #[.slice none 0 0] 54), by simp, World.ownsRow_nil _ _ _ _, rfl⟩
theorem stk_cells {w : World} {g o : Nat} {T : TypeId} {cs : Array Value} {v : Value} (h : w.heap[g]? = some (.cells (cs.setIfInBounds o v) T (0, 0))) (ho : o < cs.size) : g < w.heap.size ∧ w.cell? ⟨g, o, none⟩ = some v ∧ w.frozen? ⟨g, o, none⟩ = false := by
 obtain ⟨z, e0, ef⟩ := block_of_cells h
 exact ⟨z, (e0 o).trans (by simp [ho]), ef o⟩
theorem stk_set {w : World} {g o : Nat} {T : TypeId} {cs : Array Value} {v : Value} (h : w.heap[g]? = some (.cells (cs.setIfInBounds o v) T (0, 0))) (u : Value) : (w.setCell ⟨g, o, none⟩ u).heap[g]? = some (.cells (cs.setIfInBounds o u) T (0, 0)) := by
 have := block_set h o u
 rwa [show (cs.setIfInBounds o v).setIfInBounds o u = cs.setIfInBounds o u by simp] at this
theorem StkAt.below {g o : Nat} {T : TypeId} {cs : Array Value} {ps : List (Tm × Value × Nat)} {M : Nat → Prop} {w w' : World} (h : StkAt g o T cs ps M w) (hb : Below w.heap.size w w') : StkAt g o T cs ps M w' := by
 obtain ⟨h1, v, h2, ho, h3, h4⟩ := h
 exact ⟨h1, v, (hb.block g (block_of_cells h2).1).trans h2, ho, h3.kept (grown_of_below hb) (by cases v.ownBlock <;> simp), h4⟩
theorem StkAt.lt {g o : Nat} {T : TypeId} {cs : Array Value} {ps : List (Tm × Value × Nat)} {M : Nat → Prop} {w : World} (h : StkAt g o T cs ps M w) : ∀ i, M i → g ≤ i ∧ i < w.heap.size := by
 obtain ⟨h1, v, h2, ho, h3, rfl⟩ := h
 rintro i (rfl | hi)
 ·exact ⟨Nat.le_refl _, (block_of_cells h2).1⟩
 ·have := h3.lt i hi
  exact ⟨by omega, this.2⟩
theorem StkAt.own {g o : Nat} {T : TypeId} {cs : Array Value} {ps : List (Tm × Value × Nat)} {M : Nat → Prop} {w : World} (h : StkAt g o T cs ps M w) : M g := by
 obtain ⟨h1, v, h2, ho, h3, rfl⟩ := h
 exact Or.inl rfl
theorem info_passed : (Tryz.prog.info? 103).map (fun i => (i.zero, i.size, i.bytes)) = some (some (.agg #[.int .i64 0, .int .i64 0, .slice none 0 0, .int .i64 0]), 4, 48) := by kernel_rfl
theorem row_shrink {w : World} {base n cap gb : Nat} {e : TypeId} {xs ys : List Value} (h : w.ownsRow base e 4 (.slice (some ⟨gb, 0, none⟩) (n + 1) cap) (n + 1) (xs ++ ys)) (hx : xs.length = n * 4) : w.ownsRow base e 4 (.slice (some ⟨gb, 0, none⟩) n cap) n xs := by
 rcases h.2 with ⟨h', _⟩ | ⟨g', cap', cur, h', hb, hg, hnc, hcm, hcs, htake⟩
 ·simp at h'
 ·simp only [Value.slice.injEq, Option.some.injEq, Addr.mk.injEq, and_true, true_and] at h'
  obtain ⟨rfl, rfl⟩ := h'
  refine ⟨hx, .inr ⟨gb, cap, cur, rfl, hb, hg, by omega, hcm, hcs, ?_⟩⟩
  have e : cur.toList.take (n * 4) = (cur.toList.take ((n + 1) * 4)).take (n * 4) := by
   rw [List.take_take]
   congr 1
   omega
  rw [e, htake, List.take_append_of_le_length (by omega), List.take_of_length_le (by omega)]
def StackPost (g o : Nat) (T : TypeId) (cs : Array Value) (ps : List (Tm × Value × Nat)) (M : Nat → Prop) (w : World) (e : Ending) (w' : World) : Prop := e = .returned (.tuple #[]) ∧ ∃ M', Step M w w' M' ∧ StkAt g o T cs ps M' w'
theorem stack_push {g o gg cap : Nat} {T : TypeId} {cs : Array Value} {ps : List (Tm × Value × Nat)} {x : Tm × Value × Nat} {v : Value} {M : Nat → Prop} {w W w1 : World} (hps : ps.length < 100) (h1 : w.heap[g]? = some (.cells (cs.setIfInBounds o v) T (0, 0))) (ho : o < cs.size) (h2 : w.ownsRow (g + 1) 103 4 v ps.length (stkCells ps))
  (hM : M = fun i => i = g ∨ v.ownBlock = some i) (hb : Below w.heap.size w W) (hown : w1.ownsRow (g + 1) 103 4 (.slice (some ⟨gg, 0, none⟩) (ps.length + 1) cap) (ps.length + 1) (stkCells ps ++ stkCells [x])) (hgrow : W.grownBy w1 v.ownBlock) (hat : v.ownBlock = some gg ∨ gg = W.heap.size) :
  StackPost g o T cs (ps ++ [x]) M w (.returned (.tuple #[])) (w1.setCell ⟨g, o, none⟩ (.slice (some ⟨gg, 0, none⟩) (ps.length + 1) cap)) := by
 have hgb := (block_of_cells h1).1
 have hgg := hown.lt gg rfl
 have hne : some g ≠ v.ownBlock := fun e => by have := h2.lt g e.symm; omega
 have hgv : g < W.heap.size := Nat.lt_of_lt_of_le hgb hb.size
 have hc1 : w1.heap[g]? = some (.cells (cs.setIfInBounds o v) T (0, 0)) := (hgrow.block g hgv hne).trans ((hb.block g hgb).trans h1)
 refine ⟨rfl, fun i => i = g ∨ gg = i, ⟨hgrow.os.trans hb.os, hgrow.tape.trans hb.tape, hgrow.output.trans hb.output, ?_, fun i hi hn => ?_, fun i hi hm => ?_, ?_⟩, ?_⟩
 ·have := hb.size
  have := hgrow.size
  simp only [World.setCell, Array.size_modify]
  omega
 ·rw [Below.heap_setCell _ _ _ _ (fun e => hn (by rw [hM]; exact Or.inl e))]
  exact (hgrow.block i (Nat.lt_of_lt_of_le hi hb.size) (fun e => hn (by rw [hM]; exact Or.inr e.symm))).trans (hb.block i hi)
 ·rw [hM]
  rcases hm with hm | hm
  ·exact Or.inl hm
  ·rcases hat with hat | hat
   ·exact Or.inr (by rw [hat, hm])
   ·have := hb.size
    omega
 ·rintro i (rfl | hi)
  ·have := hgrow.size
   simp only [World.setCell, Array.size_modify]
   omega
  ·simp only [World.setCell, Array.size_modify]
   omega
 ·refine ⟨by simp; omega, .slice (some ⟨gg, 0, none⟩) (ps.length + 1) cap, ?_, ho, ?_, ?_⟩
  ·exact stk_set hc1 _
  ·rw [stkCells_append, List.length_append]
   exact ownsRow_setCell_below hown (a := ⟨g, o, none⟩) (Nat.lt_succ_self g) _
  ·funext i
   simp only [Value.ownBlock, Option.some.injEq]
set_option maxRecDepth 100000 in
set_option maxHeartbeats 1600000 in
theorem push_any {g o : Nat} {T : TypeId} {cs : Array Value} {ps : List (Tm × Value × Nat)} {M : Nat → Prop} {w : World} (k n : Int) (a : Option Addr) (L cap i : Nat) (t : Tm) (ht : t.kind = k ∧ t.num = n) (hps : ps.length < 100) (hst : StkAt g o T cs ps M w) :
  Calls Tryz.prog 56 #[.pointer (some ⟨g, o, none⟩), .agg #[.int .i64 k, .int .i64 n, .slice a L cap], .int .i64 i] w (StackPost g o T cs (ps ++ [(t, .slice a L cap, i)]) M w) := by
 obtain ⟨-, v, h1, ho, h2, hM⟩ := hst
 obtain ⟨va, vc, rfl⟩ := own_form h2
 obtain ⟨z, c0, f0⟩ := stk_cells h1 ho
 have hcl : stkCells [(t, .slice a L cap, i)] = [.int .i64 k, .int .i64 n, .slice a L cap, .int .i64 i] := by simp [stkCells, ht.1, ht.2]
 have HP : Hid (∀ (W w1 : World) (gg cap' : Nat), Below w.heap.size w W → w1.ownsRow (g + 1) 103 4 (.slice (some ⟨gg, 0, none⟩) (ps.length + 1) cap') (ps.length + 1) (stkCells ps ++ [.int .i64 k, .int .i64 n, .slice a L cap, .int .i64 i]) → W.grownBy w1 (Value.slice va ps.length vc).ownBlock → ((Value.slice va ps.length vc).ownBlock = some gg ∨ gg = W.heap.size) →
   StackPost g o T cs (ps ++ [(t, .slice a L cap, i)]) M w (.returned (.tuple #[])) (w1.setCell ⟨g, o, none⟩ (.slice (some ⟨gg, 0, none⟩) (ps.length + 1) cap'))) := tuck fun W w1 gg cap' a1 a2 a3 a4 => by
  rw [← hcl] at a2
  exact stack_push hps h1 ho h2 hM a1 a2 a3 a4
 have hbU : g + 1 ≤ w.heap.size := z
 have HB1 := tuck (below1 w (.cells #[.int .i64 k, .int .i64 n, .slice a L cap] 25))
 have HOWN := tuck (h2.kept (grown_of_below HB1.out) (by cases (Value.slice va ps.length vc).ownBlock <;> simp))
 have c0' := (HB1.out.cell (p := ⟨g, o, none⟩) z).trans c0
 have f0' := (HB1.out.frozen (p := ⟨g, o, none⟩) z).trans f0
 have HGR : Hid (some g ≠ (Value.slice va ps.length vc).ownBlock) := tuck fun e => by have := h2.lt g e.symm; omega
 obtain ⟨i0, hi0, hz0, hz1, hz2⟩ := info_parts info_passed
 have hgz : g < (w.alloc (.cells #[.int .i64 k, .int .i64 n, .slice a L cap] 25)).heap.size := Nat.lt_of_lt_of_le z HB1.out.size
 have hbW : g + 1 ≤ (w.alloc (.cells #[.int .i64 k, .int .i64 n, .slice a L cap] 25)).heap.size := Nat.le_trans hbU HB1.out.size
 have x0 : (w.alloc (.cells #[.int .i64 k, .int .i64 n, .slice a L cap] 25)).cell? ⟨w.heap.size, 0, none⟩ = some (.int .i64 k) := by go_simp
 have x1 : (w.alloc (.cells #[.int .i64 k, .int .i64 n, .slice a L cap] 25)).cell? ⟨w.heap.size, 1, none⟩ = some (.int .i64 n) := by go_simp
 have x2 : (w.alloc (.cells #[.int .i64 k, .int .i64 n, .slice a L cap] 25)).cell? ⟨w.heap.size, 2, none⟩ = some (.slice a L cap) := by go_simp
 have xz : w.heap.size < (w.alloc (.cells #[.int .i64 k, .int .i64 n, .slice a L cap] 25)).heap.size := by simp
 generalize StackPost g o T cs (ps ++ [(t, .slice a L cap, i)]) M w = post at *
 clear h1 h2 hcl ht hM ho
 go_enter Tryz.func56, Tryz.ntmps56
 go_wp2_with fail
 generalize (w.alloc (.cells #[.int .i64 k, .int .i64 n, .slice a L cap] 25)) = W0 at *
 have hown1 : (W0.alloc (.cells #[.int .i64 k, .int .i64 n, .slice a L cap, .int .i64 i] 103)).drew.ownsRow (g + 1) 103 4 (.slice va ps.length vc) ps.length (stkCells ps) := HOWN.out.kept (grown_of_below (below_drew_alloc W0 _)) (by cases (Value.slice va ps.length vc).ownBlock <;> simp)
 have hnews : ∀ j u, ([.int .i64 k, .int .i64 n, .slice a L cap, .int .i64 i] : List Value)[j]? = some u → (W0.alloc (.cells #[.int .i64 k, .int .i64 n, .slice a L cap, .int .i64 i] 103)).drew.cell? ((⟨W0.heap.size, 0, none⟩ : Addr).add j) = some u := World.news_of_block (cs := #[.int .i64 k, .int .i64 n, .slice a L cap, .int .i64 i]) (t := 103) (fr := (0, 0)) (heap_new W0 _)
 have HONE : Hid (∀ u ∈ ([.int .i64 k, .int .i64 n, .slice a L cap, .int .i64 i] : List Value), u.oneCell' = true) := tuck (by simp [Value.oneCell'])
 have HBASE : Hid (g + 1 ≤ (W0.alloc (.cells #[.int .i64 k, .int .i64 n, .slice a L cap, .int .i64 i] 103)).drew.heap.size) := tuck (by simp; omega)
 have HH : Hid ((W0.alloc (.cells #[.int .i64 k, .int .i64 n, .slice a L cap, .int .i64 i] 103)).drew.heap.size = W0.heap.size + 1) := tuck (by simp)
 have HGL : Hid (g < (W0.alloc (.cells #[.int .i64 k, .int .i64 n, .slice a L cap, .int .i64 i] 103)).drew.heap.size) := tuck (by simp; omega)
 have K0 : Hid ((W0.alloc (.cells #[.int .i64 k, .int .i64 n, .slice a L cap, .int .i64 i] 103)).drew.cell? ⟨g, o, none⟩ = some (.slice va ps.length vc)) := tuck (((below_drew_alloc W0 _).cell (p := ⟨g, o, none⟩) hgz).trans c0')
 have KF : Hid ((W0.alloc (.cells #[.int .i64 k, .int .i64 n, .slice a L cap, .int .i64 i] 103)).drew.frozen? ⟨g, o, none⟩ = false) := tuck (((below_drew_alloc W0 _).frozen (p := ⟨g, o, none⟩) hgz).trans f0')
 have HOWN1 := tuck hown1
 have HNEWS := tuck hnews
 clear hown1 hnews
 go_region_law ((refine step_append_lies _ (by rfl) _ _ _ (by rfl) (g + 1) 103 i0 _ 4 48 Tryz.underlying54 hi0 hz0 hz1 hz2 rfl (by omega) _ _ _ (by rfl) HOWN1.out ⟨W0.heap.size, 0, none⟩ 1 1 [.int .i64 k, .int .i64 n, .slice a L cap, .int .i64 i] (by rfl) (by rfl) HNEWS.out HONE.out (by omega) (by unfold maxLen; omega) (by omega) HBASE.out (W0.heap.size + 1) HH.out ?_; intro gg cap' w1 hown1 hgrow hat hlt1; have k0 := (hgrow.cell_far ⟨g, o, none⟩ HGL.out HGR.out).trans K0.out; have k1 := (hgrow.frozen_far ⟨g, o, none⟩ HGL.out HGR.out).trans KF.out))
 all_goals go_wp2_with fail
 all_goals (go_end0; exact HP.out _ w1 gg cap' (bAfter HB1.out (below_drew_alloc W0 _)) hown1 hgrow (hat.imp id (fun h => h.trans HH.out.symm)))
set_option maxRecDepth 100000 in
set_option maxHeartbeats 1600000 in
theorem pop_any {g o : Nat} {T : TypeId} {cs : Array Value} {ps : List (Tm × Value × Nat)} {x : Tm × Value × Nat} {M : Nat → Prop} {w : World} (hst : StkAt g o T cs (ps ++ [x]) M w) :
  Calls Tryz.prog 57 #[.pointer (some ⟨g, o, none⟩)] w (StackPost g o T cs ps M w) := by
 have hlt := hst.lt
 obtain ⟨hl, v, h1, ho, h2, hM⟩ := hst
 rw [List.length_append, List.length_singleton] at hl h2
 rcases h2.2 with ⟨-, h'⟩ | ⟨gb, cap, cur, rfl, hb, hgc, hnc, hcm, hcs, htake⟩
 ·omega
 obtain ⟨z, c0, f0⟩ := stk_cells h1 ho
 have HP : Hid (StackPost g o T cs ps M w (.returned (.tuple #[])) (w.setCell ⟨g, o, none⟩ (.slice (some ⟨gb, 0, none⟩) ps.length cap)).drew) := tuck (by
  refine ⟨rfl, M, ((Step.refl fun i hi => (hlt i hi).2).setCell (p := ⟨g, o, none⟩) (by rw [hM]; exact Or.inl rfl) _).and (Below.refl _ _).drew, by omega, .slice (some ⟨gb, 0, none⟩) ps.length cap, ?_, ho, ?_, by rw [hM]; rfl⟩
  ·show (w.setCell ⟨g, o, none⟩ (.slice (some ⟨gb, 0, none⟩) ps.length cap)).heap[g]? = _
   exact stk_set h1 _
  ·rw [stkCells_append] at h2
   exact World.ownsRow.drew (ownsRow_setCell_below (row_shrink h2 (stkCells_length ps)) (a := ⟨g, o, none⟩) (Nat.lt_succ_self g) _))
 generalize StackPost g o T cs ps M w = post at *
 generalize ps.length = n at *
 clear h1 h2 htake hgc hM hlt ho
 have hn0 : (n : Int) + 1 - 1 = n := by omega
 have hnc' : (n : Int) ≤ cap := by omega
 go_enter Tryz.func57, Tryz.ntmps57
 go_wp2_with fail
 go_region
 all_goals (go_end0; exact HP.out)
end Go.Proofs.YtlbikgnanabjgaaGreat
