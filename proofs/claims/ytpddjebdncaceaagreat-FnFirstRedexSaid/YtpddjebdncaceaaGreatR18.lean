/-
  Clone, Brg, LawT, Node, Stack.
-/
import Derived.Test.YtpddjebdncaceaaGreatR01
import Derived.Test.YtpddjebdncaceaaGreatR02
import Derived.Test.YtpddjebdncaceaaGreatR09
import Derived.Test.YtpddjebdncaceaaGreatR10
import Derived.Test.YtpddjebdncaceaaGreatR12
import Derived.Test.YtpddjebdncaceaaGreatR15
import Derived.Test.YtpddjebdncaceaaGreatR16
import Derived.Test.YtpddjebdncaceaaGreatR17
import Derived.ControlIn
import Derived.Laws.MakeOwn
import Derived.OrdersIn
import Derived.OwnWalk
import Derived.ProofKit
import Derived.RangeFuncCalls
import Derived.StillTailTactics
import Derived.Test.YtpddjebdncaceaaGreatProg
import Derived.WalkSpells
namespace Go.Proofs.YtpddjebdncaceaaGreat
open Go.RowKit
def stkCells : List (Tm × Value × Nat) → List Value
 | [] => []
 | (t, s, i) :: r => .int .i64 t.kind :: .int .i64 t.num :: s :: .int .i64 i :: stkCells r
theorem stkCells_append : ∀ a b : List (Tm × Value × Nat), stkCells (a ++ b) = stkCells a ++ stkCells b
 | [], b => rfl
 | (t, s, i) :: a, b => by simp only [List.cons_append, stkCells, stkCells_append a b]
theorem stkCells_length : ∀ a : List (Tm × Value × Nat), (stkCells a).length = a.length * 4
 | [] => rfl
 | (t, s, i) :: a => by simp only [stkCells, List.length_cons, stkCells_length a]; omega
def StkAt (g o : Nat) (T : TypeId) (cs : Array Value) (ps : List (Tm × Value × Nat)) (M : Nat → Prop) (w : World) : Prop :=
 ps.length ≤ 100 ∧ ∃ v, w.heap[g]? = some (.cells (cs.setIfInBounds o v) T (0, 0)) ∧ o < cs.size ∧ w.ownsRow (g + 1) 169 4 v ps.length (stkCells ps) ∧ M = fun i => i = g ∨ v.ownBlock = some i
abbrev StackAt (g : Nat) (ps : List (Tm × Value × Nat)) (M : Nat → Prop) (w : World) : Prop := StkAt g 0 79 #[.slice none 0 0] ps M w
theorem StackAt.new (w : World) : StackAt w.heap.size [] (fun i => i = w.heap.size ∨ (Value.slice none 0 0).ownBlock = some i) (w.alloc (.cells #[.slice none 0 0] 79)) :=
 ⟨by simp, .slice none 0 0, by simpa using heap_new w (.cells #[.slice none 0 0] 79), by simp, World.ownsRow_nil _ _ _ _, rfl⟩
theorem stk_cells {w : World} {g o : Nat} {T : TypeId} {cs : Array Value} {v : Value} (h : w.heap[g]? = some (.cells (cs.setIfInBounds o v) T (0, 0))) (ho : o < cs.size) : g < w.heap.size ∧ w.cell? ⟨g, o, none⟩ = some v ∧ w.frozen? ⟨g, o, none⟩ = false := by
 obtain ⟨z, e0, ef⟩ := block_of_cells h
 exact ⟨z, (e0 o).trans (by simp [ho]), ef o⟩
theorem stk_set {w : World} {g o : Nat} {T : TypeId} {cs : Array Value} {v : Value} (h : w.heap[g]? = some (.cells (cs.setIfInBounds o v) T (0, 0))) (u : Value) : (w.setCell ⟨g, o, none⟩ u).heap[g]? = some (.cells (cs.setIfInBounds o u) T (0, 0)) := by
 have := block_set h o u
 rwa [show (cs.setIfInBounds o v).setIfInBounds o u = cs.setIfInBounds o u by simp] at this
theorem StkAt.below {g o : Nat} {T : TypeId} {cs : Array Value} {ps : List (Tm × Value × Nat)} {M : Nat → Prop} {w w' : World} (h : StkAt g o T cs ps M w) (hb : Below w.heap.size w w') : StkAt g o T cs ps M w' := by
 obtain ⟨h1, v, h2, ho, h3, h4⟩ := h
 exact ⟨h1, v, (hb.block g (block_of_cells h2).1).trans h2, ho, h3.kept (grown_of_below hb) (by cases v.ownBlock <;> simp), h4⟩
theorem StkAt.lt {g o : Nat} {T : TypeId} {cs : Array Value} {ps : List (Tm × Value × Nat)} {M : Nat → Prop} {w : World} (h : StkAt g o T cs ps M w) : ∀ i, M i → g ≤ i ∧ i < w.heap.size := by
 obtain ⟨h1, v, h2, ho, h3, rfl⟩ := h
 rintro i (rfl | hi)
 ·exact ⟨Nat.le_refl _, (block_of_cells h2).1⟩
 ·have := h3.lt i hi
  exact ⟨by omega, this.2⟩
theorem StkAt.own {g o : Nat} {T : TypeId} {cs : Array Value} {ps : List (Tm × Value × Nat)} {M : Nat → Prop} {w : World} (h : StkAt g o T cs ps M w) : M g := by
 obtain ⟨h1, v, h2, ho, h3, rfl⟩ := h
 exact Or.inl rfl
theorem info_passed : (Tryz.prog.info? 169).map (fun i => (i.zero, i.size, i.bytes)) = some (some (.agg #[.int .i64 0, .int .i64 0, .slice none 0 0, .int .i64 0]), 4, 48) := by kernel_rfl
theorem row_shrink {w : World} {base n cap gb : Nat} {e : TypeId} {xs ys : List Value} (h : w.ownsRow base e 4 (.slice (some ⟨gb, 0, none⟩) (n + 1) cap) (n + 1) (xs ++ ys)) (hx : xs.length = n * 4) : w.ownsRow base e 4 (.slice (some ⟨gb, 0, none⟩) n cap) n xs := by
 rcases h.2 with ⟨h', _⟩ | ⟨g', cap', cur, h', hb, hg, hnc, hcm, hcs, htake⟩
 ·simp at h'
 ·simp only [Value.slice.injEq, Option.some.injEq, Addr.mk.injEq, and_true, true_and] at h'
  obtain ⟨rfl, rfl⟩ := h'
  refine ⟨hx, .inr ⟨gb, cap, cur, rfl, hb, hg, by omega, hcm, hcs, ?_⟩⟩
  have e : cur.toList.take (n * 4) = (cur.toList.take ((n + 1) * 4)).take (n * 4) := by
   rw [List.take_take]
   congr 1
   omega
  rw [e, htake, List.take_append_of_le_length (by omega), List.take_of_length_le (by omega)]
def StackPost (g o : Nat) (T : TypeId) (cs : Array Value) (ps : List (Tm × Value × Nat)) (M : Nat → Prop) (w : World) (e : Ending) (w' : World) : Prop := e = .returned (.tuple #[]) ∧ ∃ M', Step M w w' M' ∧ StkAt g o T cs ps M' w'
theorem stack_push {g o gg cap : Nat} {T : TypeId} {cs : Array Value} {ps : List (Tm × Value × Nat)} {x : Tm × Value × Nat} {v : Value} {M : Nat → Prop} {w W w1 : World} (hps : ps.length < 100) (h1 : w.heap[g]? = some (.cells (cs.setIfInBounds o v) T (0, 0))) (ho : o < cs.size) (h2 : w.ownsRow (g + 1) 169 4 v ps.length (stkCells ps))
  (hM : M = fun i => i = g ∨ v.ownBlock = some i) (hb : Below w.heap.size w W) (hown : w1.ownsRow (g + 1) 169 4 (.slice (some ⟨gg, 0, none⟩) (ps.length + 1) cap) (ps.length + 1) (stkCells ps ++ stkCells [x])) (hgrow : W.grownBy w1 v.ownBlock) (hat : v.ownBlock = some gg ∨ gg = W.heap.size) :
  StackPost g o T cs (ps ++ [x]) M w (.returned (.tuple #[])) (w1.setCell ⟨g, o, none⟩ (.slice (some ⟨gg, 0, none⟩) (ps.length + 1) cap)) := by
 have hgb := (block_of_cells h1).1
 have hgg := hown.lt gg rfl
 have hne : some g ≠ v.ownBlock := fun e => by have := h2.lt g e.symm; omega
 have hgv : g < W.heap.size := Nat.lt_of_lt_of_le hgb hb.size
 have hc1 : w1.heap[g]? = some (.cells (cs.setIfInBounds o v) T (0, 0)) := (hgrow.block g hgv hne).trans ((hb.block g hgb).trans h1)
 refine ⟨rfl, fun i => i = g ∨ gg = i, ⟨hgrow.os.trans hb.os, hgrow.tape.trans hb.tape, hgrow.output.trans hb.output, ?_, fun i hi hn => ?_, fun i hi hm => ?_, ?_⟩, ?_⟩
 ·have := hb.size
  have := hgrow.size
  simp only [World.setCell, Array.size_modify]
  omega
 ·rw [Below.heap_setCell _ _ _ _ (fun e => hn (by rw [hM]; exact Or.inl e))]
  exact (hgrow.block i (Nat.lt_of_lt_of_le hi hb.size) (fun e => hn (by rw [hM]; exact Or.inr e.symm))).trans (hb.block i hi)
 ·rw [hM]
  rcases hm with hm | hm
  ·exact Or.inl hm
  ·rcases hat with hat | hat
   ·exact Or.inr (by rw [hat, hm])
   ·have := hb.size
    omega
 ·rintro i (rfl | hi)
  ·have := hgrow.size
   simp only [World.setCell, Array.size_modify]
   omega
  ·simp only [World.setCell, Array.size_modify]
   omega
 ·refine ⟨by simp; omega, .slice (some ⟨gg, 0, none⟩) (ps.length + 1) cap, ?_, ho, ?_, ?_⟩
  ·exact stk_set hc1 _
  ·rw [stkCells_append, List.length_append]
   exact ownsRow_setCell_below hown (a := ⟨g, o, none⟩) (Nat.lt_succ_self g) _
  ·funext i
   simp only [Value.ownBlock, Option.some.injEq]
set_option maxRecDepth 100000 in
set_option maxHeartbeats 1600000 in
theorem push_any {g o : Nat} {T : TypeId} {cs : Array Value} {ps : List (Tm × Value × Nat)} {M : Nat → Prop} {w : World} (k n : Int) (a : Option Addr) (L cap i : Nat) (t : Tm) (ht : t.kind = k ∧ t.num = n) (hps : ps.length < 100) (hst : StkAt g o T cs ps M w) :
  Calls Tryz.prog 115 #[.pointer (some ⟨g, o, none⟩), .agg #[.int .i64 k, .int .i64 n, .slice a L cap], .int .i64 i] w (StackPost g o T cs (ps ++ [(t, .slice a L cap, i)]) M w) := by
 obtain ⟨-, v, h1, ho, h2, hM⟩ := hst
 obtain ⟨va, vc, rfl⟩ := own_form h2
 obtain ⟨z, c0, f0⟩ := stk_cells h1 ho
 have hcl : stkCells [(t, .slice a L cap, i)] = [.int .i64 k, .int .i64 n, .slice a L cap, .int .i64 i] := by simp [stkCells, ht.1, ht.2]
 have HP : Hid (∀ (W w1 : World) (gg cap' : Nat), Below w.heap.size w W → w1.ownsRow (g + 1) 169 4 (.slice (some ⟨gg, 0, none⟩) (ps.length + 1) cap') (ps.length + 1) (stkCells ps ++ [.int .i64 k, .int .i64 n, .slice a L cap, .int .i64 i]) → W.grownBy w1 (Value.slice va ps.length vc).ownBlock → ((Value.slice va ps.length vc).ownBlock = some gg ∨ gg = W.heap.size) →
   StackPost g o T cs (ps ++ [(t, .slice a L cap, i)]) M w (.returned (.tuple #[])) (w1.setCell ⟨g, o, none⟩ (.slice (some ⟨gg, 0, none⟩) (ps.length + 1) cap'))) := tuck fun W w1 gg cap' a1 a2 a3 a4 => by
  rw [← hcl] at a2
  exact stack_push hps h1 ho h2 hM a1 a2 a3 a4
 have hbU : g + 1 ≤ w.heap.size := z
 have HB1 := tuck (below1 w (.cells #[.int .i64 k, .int .i64 n, .slice a L cap] 34))
 have HOWN := tuck (h2.kept (grown_of_below HB1.out) (by cases (Value.slice va ps.length vc).ownBlock <;> simp))
 have c0' := (HB1.out.cell (p := ⟨g, o, none⟩) z).trans c0
 have f0' := (HB1.out.frozen (p := ⟨g, o, none⟩) z).trans f0
 have HGR : Hid (some g ≠ (Value.slice va ps.length vc).ownBlock) := tuck fun e => by have := h2.lt g e.symm; omega
 obtain ⟨i0, hi0, hz0, hz1, hz2⟩ := info_parts info_passed
 have hgz : g < (w.alloc (.cells #[.int .i64 k, .int .i64 n, .slice a L cap] 34)).heap.size := Nat.lt_of_lt_of_le z HB1.out.size
 have hbW : g + 1 ≤ (w.alloc (.cells #[.int .i64 k, .int .i64 n, .slice a L cap] 34)).heap.size := Nat.le_trans hbU HB1.out.size
 have x0 : (w.alloc (.cells #[.int .i64 k, .int .i64 n, .slice a L cap] 34)).cell? ⟨w.heap.size, 0, none⟩ = some (.int .i64 k) := by go_simp
 have x1 : (w.alloc (.cells #[.int .i64 k, .int .i64 n, .slice a L cap] 34)).cell? ⟨w.heap.size, 1, none⟩ = some (.int .i64 n) := by go_simp
 have x2 : (w.alloc (.cells #[.int .i64 k, .int .i64 n, .slice a L cap] 34)).cell? ⟨w.heap.size, 2, none⟩ = some (.slice a L cap) := by go_simp
 have xz : w.heap.size < (w.alloc (.cells #[.int .i64 k, .int .i64 n, .slice a L cap] 34)).heap.size := by simp
 generalize StackPost g o T cs (ps ++ [(t, .slice a L cap, i)]) M w = post at *
 clear h1 h2 hcl ht hM ho
 go_enter Tryz.func115, Tryz.ntmps115
 go_wp2_with fail
 generalize (w.alloc (.cells #[.int .i64 k, .int .i64 n, .slice a L cap] 34)) = W0 at *
 have hown1 : (W0.alloc (.cells #[.int .i64 k, .int .i64 n, .slice a L cap, .int .i64 i] 169)).drew.ownsRow (g + 1) 169 4 (.slice va ps.length vc) ps.length (stkCells ps) := HOWN.out.kept (grown_of_below (below_drew_alloc W0 _)) (by cases (Value.slice va ps.length vc).ownBlock <;> simp)
 have hnews : ∀ j u, ([.int .i64 k, .int .i64 n, .slice a L cap, .int .i64 i] : List Value)[j]? = some u → (W0.alloc (.cells #[.int .i64 k, .int .i64 n, .slice a L cap, .int .i64 i] 169)).drew.cell? ((⟨W0.heap.size, 0, none⟩ : Addr).add j) = some u := World.news_of_block (cs := #[.int .i64 k, .int .i64 n, .slice a L cap, .int .i64 i]) (t := 169) (fr := (0, 0)) (heap_new W0 _)
 have HONE : Hid (∀ u ∈ ([.int .i64 k, .int .i64 n, .slice a L cap, .int .i64 i] : List Value), u.oneCell' = true) := tuck (by simp [Value.oneCell'])
 have HBASE : Hid (g + 1 ≤ (W0.alloc (.cells #[.int .i64 k, .int .i64 n, .slice a L cap, .int .i64 i] 169)).drew.heap.size) := tuck (by simp; omega)
 have HH : Hid ((W0.alloc (.cells #[.int .i64 k, .int .i64 n, .slice a L cap, .int .i64 i] 169)).drew.heap.size = W0.heap.size + 1) := tuck (by simp)
 have HGL : Hid (g < (W0.alloc (.cells #[.int .i64 k, .int .i64 n, .slice a L cap, .int .i64 i] 169)).drew.heap.size) := tuck (by simp; omega)
 have K0 : Hid ((W0.alloc (.cells #[.int .i64 k, .int .i64 n, .slice a L cap, .int .i64 i] 169)).drew.cell? ⟨g, o, none⟩ = some (.slice va ps.length vc)) := tuck (((below_drew_alloc W0 _).cell (p := ⟨g, o, none⟩) hgz).trans c0')
 have KF : Hid ((W0.alloc (.cells #[.int .i64 k, .int .i64 n, .slice a L cap, .int .i64 i] 169)).drew.frozen? ⟨g, o, none⟩ = false) := tuck (((below_drew_alloc W0 _).frozen (p := ⟨g, o, none⟩) hgz).trans f0')
 have HOWN1 := tuck hown1
 have HNEWS := tuck hnews
 clear hown1 hnews
 go_region_law ((refine step_append_lies _ (by rfl) _ _ _ (by rfl) (g + 1) 169 i0 _ 4 48 Tryz.underlying79 hi0 hz0 hz1 hz2 rfl (by omega) _ _ _ (by rfl) HOWN1.out ⟨W0.heap.size, 0, none⟩ 1 1 [.int .i64 k, .int .i64 n, .slice a L cap, .int .i64 i] (by rfl) (by rfl) HNEWS.out HONE.out (by omega) (by unfold maxLen; omega) (by omega) HBASE.out (W0.heap.size + 1) HH.out ?_; intro gg cap' w1 hown1 hgrow hat hlt1; have k0 := (hgrow.cell_far ⟨g, o, none⟩ HGL.out HGR.out).trans K0.out; have k1 := (hgrow.frozen_far ⟨g, o, none⟩ HGL.out HGR.out).trans KF.out))
 all_goals go_wp2_with fail
 all_goals (go_end0; exact HP.out _ w1 gg cap' (bAfter HB1.out (below_drew_alloc W0 _)) hown1 hgrow (hat.imp id (fun h => h.trans HH.out.symm)))
set_option maxRecDepth 100000 in
set_option maxHeartbeats 1600000 in
theorem pop_any {g o : Nat} {T : TypeId} {cs : Array Value} {ps : List (Tm × Value × Nat)} {x : Tm × Value × Nat} {M : Nat → Prop} {w : World} (hst : StkAt g o T cs (ps ++ [x]) M w) :
  Calls Tryz.prog 127 #[.pointer (some ⟨g, o, none⟩)] w (StackPost g o T cs ps M w) := by
 have hlt := hst.lt
 obtain ⟨hl, v, h1, ho, h2, hM⟩ := hst
 rw [List.length_append, List.length_singleton] at hl h2
 rcases h2.2 with ⟨-, h'⟩ | ⟨gb, cap, cur, rfl, hb, hgc, hnc, hcm, hcs, htake⟩
 ·omega
 obtain ⟨z, c0, f0⟩ := stk_cells h1 ho
 have HP : Hid (StackPost g o T cs ps M w (.returned (.tuple #[])) (w.setCell ⟨g, o, none⟩ (.slice (some ⟨gb, 0, none⟩) ps.length cap)).drew) := tuck (by
  refine ⟨rfl, M, ((Step.refl fun i hi => (hlt i hi).2).setCell (p := ⟨g, o, none⟩) (by rw [hM]; exact Or.inl rfl) _).and (Below.refl _ _).drew, by omega, .slice (some ⟨gb, 0, none⟩) ps.length cap, ?_, ho, ?_, by rw [hM]; rfl⟩
  ·show (w.setCell ⟨g, o, none⟩ (.slice (some ⟨gb, 0, none⟩) ps.length cap)).heap[g]? = _
   exact stk_set h1 _
  ·rw [stkCells_append] at h2
   exact World.ownsRow.drew (ownsRow_setCell_below (row_shrink h2 (stkCells_length ps)) (a := ⟨g, o, none⟩) (Nat.lt_succ_self g) _))
 generalize StackPost g o T cs ps M w = post at *
 generalize ps.length = n at *
 clear h1 h2 htake hgc hM hlt ho
 have hn0 : (n : Int) + 1 - 1 = n := by omega
 have hnc' : (n : Int) ≤ cap := by omega
 go_enter Tryz.func127, Tryz.ntmps127
 go_wp2_with fail
 go_region
 all_goals (go_end0; exact HP.out)
end Go.Proofs.YtpddjebdncaceaaGreat
namespace Go.Proofs.YtpddjebdncaceaaGreat
open Go.RowKit
theorem leaf_any (k n : Int) (w : World) : Calls Tryz.prog 109 #[.int .i64 k, .int .i64 n] w fun e w' => e = .returned (.agg #[.int .i64 k, .int .i64 n, .slice none 0 0]) ∧ Below w.heap.size w w' := by
 go_enter Tryz.func109, Tryz.ntmps109
 go_wp2
 refine bodyPost_ret (v := .agg #[.int .i64 k, .int .i64 n, .slice none 0 0]) (by simp [results, Tryz.results109, go_sem]) rfl ⟨rfl, below1 _ _⟩
theorem cellsL_one {r : List (Tm × Value)} {w : World} {B : Nat} (h : ∀ x ∈ r, SlIn w B x.1.kids x.2) : ∀ u ∈ cellsL r, u.oneCell' = true := by
 induction r with
 | nil => intro u hu; simp [cellsL] at hu
 | cons x r ih =>
  obtain ⟨t, s⟩ := x
  intro u hu
  simp only [cellsL, List.mem_cons] at hu
  rcases hu with rfl | rfl | rfl | hu
  ·rfl
  ·rfl
  ·obtain ⟨a, cap, e⟩ := (h _ (List.mem_cons_self ..)).form
   rw [show (u : Value) = .slice a t.kids.length cap from e]; rfl
  ·exact ih (fun x hx => h x (List.mem_cons_of_mem _ hx)) u hu
def NodePost (B : Nat) (k : Int) (l : List Tm) (w : World) (e : Ending) (w' : World) : Prop := ∃ s, e = .returned (.agg #[.int .i64 k, .int .i64 0, s]) ∧ SlIn w' B l s ∧ Below w.heap.size w w'
set_option maxRecDepth 100000 in
theorem node_any (B : Nat) (k : Int) (l : List Tm) (w : World) (v : Value) (hne : l ≠ []) (_hB : B ≤ w.heap.size) (hl : l.length ≤ 100000) (h : SlIn w B l v) : Calls Tryz.prog 86 #[.int .i64 k, v] w (NodePost B k l w) := by
 obtain ⟨a, cap, b, o, rfl, hl2, hp, hrow⟩ := h
 obtain ⟨r, hr, hcell, hin⟩ := hrow.list
 have hrl : r.length = l.length := by rw [← hr, List.length_map]
 obtain ⟨i0, hi, hz0, hz1, hz2⟩ := info_parts info_term'
 obtain ⟨rfl, _⟩ := hp hne
 have HC := tuck hcell
 have HIN := tuck hin
 have HR := tuck hr
 have HRL := tuck hrl
 have HI := tuck hi
 have HZ0 := tuck hz0
 have HZ1 := tuck hz1
 have HZ2 := tuck hz2
 clear hcell hin hr hrl hrow hp hi hz0 hz1 hz2
 go_enter Tryz.func86, Tryz.ntmps86
 have hlt : b < w.heap.size := by
  cases r with
  | nil => exact absurd (by have := HRL.out; simpa using this.symm) hne
  | cons x r => exact World.block_lt_of_cell? w _ (HC.out 0 _ rfl)
 go_wp2_with (at_builtin; refine wpList_append_own _ rfl (.tmp 6) (.tmp 7) 32 rfl (w.heap.size + 1) 34 i0 _ 3 40 Tryz.underlying32 HI.out HZ0.out HZ1.out HZ2.out rfl (by decide) (.slice (some ⟨w.heap.size + 1, 0, none⟩) 0 0) 0 [] rfl ?own ⟨b, o, none⟩ l.length cap (cellsL r) rfl ?len ?cells ?one ?c63 ?cby ?cbase ?next)
 case own =>
  have := World.ownsRow_made (w.alloc (.cells #[.int .i64 0, .int .i64 0, .slice none 0 0] 34)) #[] 0 (base := w.heap.size + 1) (e := 34) (size := 3) (by simp) (by simp [maxLen]) rfl
  simpa using this
 case len => rw [cellsL_length, HRL.out]
 case cells =>
  intro j u hu
  have := HC.out j u hu
  have ea : (Addr.mk b o none).add j = ⟨b, o + j, none⟩ := by unfold Addr.add; split <;> simp_all
  rw [ea]
  exact ((below2 w _ _).cell (p := ⟨b, o + j, none⟩) hlt).trans this
 case one => exact cellsL_one HIN.out
 case c63 => simp [maxLen]; omega
 case cby => omega
 case cbase => simp
 case next =>
  intro v' w' hown hgrow _
  have hbel : Below w.heap.size w w' := (below2 w _ _).grown hgrow (by simp; omega) (fun g hg => by simp [Value.ownBlock] at hg; omega)
  have hz : w.heap.size < w'.heap.size := by have := hgrow.size; simp at this; omega
  have hc0 : ∀ i, w'.cell? ⟨w.heap.size, i, none⟩ = ((w.alloc (.cells #[.int .i64 0, .int .i64 0, .slice none 0 0] 34)).alloc (.cells #[] 34)).cell? ⟨w.heap.size, i, none⟩ := fun i =>
   World.cell?_of_block (hgrow.block w.heap.size (by simp; omega) (fun e => by simp [Value.ownBlock] at e))
  have hf0 : ∀ i, w'.frozen? ⟨w.heap.size, i, none⟩ = ((w.alloc (.cells #[.int .i64 0, .int .i64 0, .slice none 0 0] 34)).alloc (.cells #[] 34)).frozen? ⟨w.heap.size, i, none⟩ := fun i =>
   World.frozen?_of_block (hgrow.block w.heap.size (by simp; omega) (fun e => by simp [Value.ownBlock] at e))
  have hsl : ∃ g c, v' = .slice (some ⟨g, 0, none⟩) l.length c ∧ w.heap.size < g ∧ ∀ j u, (cellsL r)[j]? = some u → w'.cell? ⟨g, 0 + j, none⟩ = some u := by
   rcases hown.2 with ⟨_, h0⟩ | ⟨g, c, cur, rfl, hg, _⟩
   ·exact absurd (List.length_eq_zero_iff.1 h0) hne
   ·refine ⟨g, c, rfl, by omega, fun j u hu => ?_⟩
    rw [Nat.zero_add, hown.cellAt j (by have := (List.getElem?_eq_some_iff.1 hu).1; rw [cellsL_length, HRL.out] at this; exact this)]
    exact hu
  obtain ⟨g, c, rfl, hg, hsl⟩ := hsl
  have HSL := tuck hsl
  have HBEL := tuck hbel
  clear hsl hbel hown hgrow
  go_wp2_with fail
  refine bodyPost_ret (v := .agg #[.int .i64 k, .int .i64 0, .slice (some ⟨g, 0, none⟩) l.length c]) (by simp [results, Tryz.results86, go_sem, hc0]) rfl ?_
  have hb3 := bSet3 HBEL.out (Nat.le_refl w.heap.size) 0 1 2 (.int .i64 k) (.int .i64 0) (.slice (some ⟨g, 0, none⟩) l.length c)
  refine ⟨_, rfl, ⟨some ⟨g, 0, none⟩, c, g, 0, rfl, hl2, fun _ => ⟨rfl, by omega⟩, ?_⟩, hb3⟩
  have hrow : RowAt _ B (r.map (·.1)) g 0 := RowAt.of_list (fun j u hu => ?_) (fun x hx => (HIN.out x hx).below hb3)
  ·rw [HR.out] at hrow
   exact hrow
  have hne3 : ∀ i, (⟨w.heap.size, i, none⟩ : Addr) ≠ ⟨g, 0 + j, none⟩ := fun i e => by injection e; omega
  rw [World.cell?_setCell_other _ _ _ _ (hne3 _), World.cell?_setCell_other _ _ _ _ (hne3 _), World.cell?_setCell_other _ _ _ _ (hne3 _)]
  exact HSL.out j u hu
end Go.Proofs.YtpddjebdncaceaaGreat
namespace Go.Proofs.YtpddjebdncaceaaGreat
open Go.RowKit
set_option maxRecDepth 100000 in
theorem cloneI_any : ∀ (l : List Tm) (k n : Int) (w : World) (v : Value), sizes l ≤ 1000000 → SlIn w 0 l v →
  Calls Tryz.prog 45 #[.agg #[.int .i64 k, .int .i64 n, v]] w (MadePost w (Tm.mk k n l)) := by
 intro l
 induction l using Tm.ind with
 | h l ih =>
 intro k n w v hsz hin
 obtain ⟨a, cap, bb, o, rfl, hl, hp, hc⟩ := hin.open
 clear hin
 have HPOST : Hid (∀ w' s F, Below w.heap.size w w' → SlOwn w' l s F → F.Nodup → (∀ g ∈ F, w.heap.size ≤ g ∧ g < w'.heap.size) → MadePost w (Tm.mk k n l) (.returned (.agg #[.int .i64 k, .int .i64 n, s])) w') := fun w' s F a1 a2 a3 a4 =>
  ⟨a1, _, rfl, s, F, rfl, a2, a3, a4⟩
 generalize MadePost w (Tm.mk k n l) = post at *
 have hll := length_le_sizes l
 have hl4 : l.length ≤ 1000000 := by omega
 have HI := tuck ih
 have HP := tuck hp
 have HC := tuck hc
 have HSZ := tuck hsz
 clear ih hp hc hsz hll
 by_cases hl0 : l.length = 0
 ·have hl' : l = [] := List.length_eq_zero_iff.1 hl0
  subst hl'
  go_enter Tryz.func45, Tryz.ntmps45
  go_wp2_with fail
  refine bodyPost_ret (v := .agg #[.int .i64 k, .int .i64 n, .slice none 0 0]) (by simp [results, Tryz.results45, go_sem]) rfl (HPOST.out _ _ [] ?_ (SlOwn.nil _ _ _) List.nodup_nil (fun g h => by cases h))
  exact below3 _ _ _ _
 have hpos : 0 < l.length := by omega
 have hposi : (0 : Int) < (l.length : Int) := by omega
 obtain ⟨i0, hi, hz0, hz1', hz2⟩ := info_parts info_term'
 have hmk : ∀ W : World, (Instr.makeSlice 32 (.int .i64 (l.length : Int)) (.int .i64 (l.length : Int))).run Tryz.prog W = .ok (.slice (some ⟨W.heap.size, 0, none⟩) l.length l.length) (W.alloc (.cells (madeCells #[.int .i64 0, .int .i64 0, .slice none 0 0] (l.length * 3)) 34)) := fun W => by
  have h := run_make (P := Tryz.prog) W 32 34 i0 _ Tryz.underlying32 hi hz0 .i64 .i64 (l.length : Int) (l.length : Int) (by omega) (Int.le_refl _) (by rw [hz2]; omega) (by omega)
  rw [hz1'] at h
  simpa [Value.cells] using h
 clear hi hz0 hz1' hz2
 have HB2 := tuck ((below3 w (.cells #[.int .i64 k, .int .i64 n, .slice a l.length cap] 34) (.cells #[.int .i64 0, .int .i64 0, .slice none 0 0] 34) (.cells #[.int .i64 k, .int .i64 n, (.slice (some ⟨w.heap.size + 1 + 1 + 1, 0, none⟩) l.length l.length)] 34)).alloc (by simp; omega) (.cells (madeCells #[.int .i64 0, .int .i64 0, .slice none 0 0] (l.length * 3)) 34))
 have HT2 := tuck ((((VarAt.new w k n (.slice a l.length cap)).below (below1 _ (.cells #[.int .i64 0, .int .i64 0, .slice none 0 0] 34))).below (below1 _ (.cells #[.int .i64 k, .int .i64 n, (.slice (some ⟨w.heap.size + 1 + 1 + 1, 0, none⟩) l.length l.length)] 34))).below (below1 _ (.cells (madeCells #[.int .i64 0, .int .i64 0, .slice none 0 0] (l.length * 3)) 34)))
 have HC2 : Hid (VarAt (w.heap.size + 1 + 1) k n (.slice (some ⟨w.heap.size + 1 + 1 + 1, 0, none⟩) l.length l.length) ((((w.alloc (.cells #[.int .i64 k, .int .i64 n, .slice a l.length cap] 34)).alloc (.cells #[.int .i64 0, .int .i64 0, .slice none 0 0] 34)).alloc (.cells #[.int .i64 k, .int .i64 n, (.slice (some ⟨w.heap.size + 1 + 1 + 1, 0, none⟩) l.length l.length)] 34)).alloc (.cells (madeCells #[.int .i64 0, .int .i64 0, .slice none 0 0] (l.length * 3)) 34))) := tuck (by
  have := (var_new2 w (.cells #[.int .i64 k, .int .i64 n, .slice a l.length cap] 34) (.cells #[.int .i64 0, .int .i64 0, .slice none 0 0] 34) k n (.slice (some ⟨w.heap.size + 1 + 1 + 1, 0, none⟩) l.length l.length)).below (below1 _ (.cells (madeCells #[.int .i64 0, .int .i64 0, .slice none 0 0] (l.length * 3)) 34))
  exact this)
 have HZ2 : Hid (VarAt (w.heap.size + 1) 0 0 (.slice none 0 0) ((((w.alloc (.cells #[.int .i64 k, .int .i64 n, .slice a l.length cap] 34)).alloc (.cells #[.int .i64 0, .int .i64 0, .slice none 0 0] 34)).alloc (.cells #[.int .i64 k, .int .i64 n, (.slice (some ⟨w.heap.size + 1 + 1 + 1, 0, none⟩) l.length l.length)] 34)).alloc (.cells (madeCells #[.int .i64 0, .int .i64 0, .slice none 0 0] (l.length * 3)) 34))) := tuck (by
  have := ((var_new1 w (.cells #[.int .i64 k, .int .i64 n, .slice a l.length cap] 34) 0 0 (.slice none 0 0)).below (below1 _ (.cells #[.int .i64 k, .int .i64 n, (.slice (some ⟨w.heap.size + 1 + 1 + 1, 0, none⟩) l.length l.length)] 34))).below (below1 _ (.cells (madeCells #[.int .i64 0, .int .i64 0, .slice none 0 0] (l.length * 3)) 34))
  exact this)
 have HR2 : Hid (((((w.alloc (.cells #[.int .i64 k, .int .i64 n, .slice a l.length cap] 34)).alloc (.cells #[.int .i64 0, .int .i64 0, .slice none 0 0] 34)).alloc (.cells #[.int .i64 k, .int .i64 n, (.slice (some ⟨w.heap.size + 1 + 1 + 1, 0, none⟩) l.length l.length)] 34)).alloc (.cells (madeCells #[.int .i64 0, .int .i64 0, .slice none 0 0] (l.length * 3)) 34)).heap[w.heap.size + 1 + 1 + 1]? = some (.cells (madeCells #[.int .i64 0, .int .i64 0, .slice none 0 0] (l.length * 3)) 34)) := tuck (by
  have := heap_new (((w.alloc (.cells #[.int .i64 k, .int .i64 n, .slice a l.length cap] 34)).alloc (.cells #[.int .i64 0, .int .i64 0, .slice none 0 0] 34)).alloc (.cells #[.int .i64 k, .int .i64 n, (.slice (some ⟨w.heap.size + 1 + 1 + 1, 0, none⟩) l.length l.length)] 34)) (.cells (madeCells #[.int .i64 0, .int .i64 0, .slice none 0 0] (l.length * 3)) 34)
  rwa [show (((w.alloc (.cells #[.int .i64 k, .int .i64 n, .slice a l.length cap] 34)).alloc (.cells #[.int .i64 0, .int .i64 0, .slice none 0 0] 34)).alloc (.cells #[.int .i64 k, .int .i64 n, (.slice (some ⟨w.heap.size + 1 + 1 + 1, 0, none⟩) l.length l.length)] 34)).heap.size = w.heap.size + 1 + 1 + 1 by simp] at this)
 go_enter Tryz.func45, Tryz.ntmps45
 go_wp2_with fail
 generalize ((((w.alloc (.cells #[.int .i64 k, .int .i64 n, .slice a l.length cap] 34)).alloc (.cells #[.int .i64 0, .int .i64 0, .slice none 0 0] 34)).alloc (.cells #[.int .i64 k, .int .i64 n, (.slice (some ⟨w.heap.size + 1 + 1 + 1, 0, none⟩) l.length l.length)] 34)).alloc (.cells (madeCells #[.int .i64 0, .int .i64 0, .slice none 0 0] (l.length * 3)) 34)) = W2 at *
 clear hmk
 go_loopw [23] (fun i wr => ∃ (q : Nat) (F : List Nat), q ≤ l.length ∧ i = .int .i64 q ∧ Below w.heap.size w wr ∧ VarAt (w.heap.size + 1) 0 0 (.slice none 0 0) wr ∧ VarAt (w.heap.size + 1 + 1) k n (.slice (some ⟨w.heap.size + 1 + 1 + 1, 0, none⟩) l.length l.length) wr ∧
   (∃ cs : Array Value, wr.heap[w.heap.size + 1 + 1 + 1]? = some (.cells cs 34 (0, 0)) ∧ cs.size = l.length * 3) ∧ RowOwn wr (l.take q) (w.heap.size + 1 + 1 + 1) 0 F ∧ F.Nodup ∧ ∀ x ∈ F, w.heap.size + 1 + 1 + 1 < x ∧ x < wr.heap.size) (fun i _ => l.length - (intOf i).toNat)
 case atStart => exact ⟨0, [], Nat.zero_le _, rfl, HB2.out, HZ2.out, HC2.out, ⟨_, HR2.out, size_madeCells _ _⟩, by rw [List.take_zero, RowOwn], List.nodup_nil, fun x h => by cases h⟩
 case round =>
  obtain ⟨q, F, hq, rfl, hb, hyz, hy4, ⟨cs, hcs, hcz⟩, hro, hnd, hF⟩ := hrel
  have HB := tuck hb
  have HYZ := tuck hyz
  have HY4 := tuck hy4
  have HCS := tuck hcs
  have HRO := tuck hro
  have HND := tuck hnd
  have HF := tuck hF
  clear hb hyz hy4 hcs hro hnd hF
  obtain ⟨z4, a0, a1, a2, af⟩ := HY4.out.facts
  by_cases hlt : q < l.length
  ·have hlti : ((q : Int) < (l.length : Int)) := by omega
   have hqi : (0 : Int) ≤ (q : Int) := by omega
   have hzr4 := (block_of_cells HCS.out).1
   have HTAKE1 : Hid (l.take (q + 1) = l.take q ++ [l[q]]) := List.take_succ_eq_append_getElem hlt
   obtain ⟨rfl, _, hbw⟩ := HP.out (by intro e; rw [e] at hlt; simp at hlt)
   obtain ⟨s, c0, c1, c2, hs⟩ := HC.out q hlt
   obtain ⟨sa, sc, rfl⟩ := hs.form
   replace c0 := (HB.out.cell (p := ⟨bb, o + q * 3, none⟩) hbw).trans c0
   replace c1 := (HB.out.cell (p := ⟨bb, o + q * 3 + 1, none⟩) hbw).trans c1
   replace c2 := (HB.out.cell (p := ⟨bb, o + q * 3 + 2, none⟩) hbw).trans c2
   have HS := tuck hs
   have HCALL : Hid (∀ w1, Below w.heap.size w w1 → Calls Tryz.prog 45 #[.agg #[.int .i64 l[q].kind, .int .i64 l[q].num, .slice sa l[q].kids.length sc]] w1 (MadePost w1 l[q])) := fun w1 h1 => by
    have := HI.out q hlt l[q].kind l[q].num w1 _ (by have := kids_get_lt l q hlt; have := HSZ.out; omega) (HS.out.below h1)
    rwa [Tm.eta] at this
   clear hs HI
   generalize l[q] = x at *
   go_wp2_with fail
   have hbk := below1 wr (.cells #[.int .i64 x.kind, .int .i64 x.num, .slice sa x.kids.length sc] 34)
   have hz4k : wr.heap.size < (wr.alloc (.cells #[.int .i64 x.kind, .int .i64 x.num, .slice sa x.kids.length sc] 34)).heap.size := by simp
   have k0 := VarAt.new wr x.kind x.num (.slice sa x.kids.length sc)
   have HS0 : Hid ((w.heap.size + 1 + 1 < (wr.alloc (.cells #[.int .i64 x.kind, .int .i64 x.num, .slice sa x.kids.length sc] 34)).drew.heap.size ∧ (wr.alloc (.cells #[.int .i64 x.kind, .int .i64 x.num, .slice sa x.kids.length sc] 34)).drew.cell? ⟨w.heap.size + 1 + 1, 2, none⟩ = some (.slice (some ⟨w.heap.size + 1 + 1 + 1, 0, none⟩) l.length l.length)) ∧ (wr.alloc (.cells #[.int .i64 x.kind, .int .i64 x.num, .slice sa x.kids.length sc] 34)).drew.cell? ⟨wr.heap.size, 0, none⟩ = some (.int .i64 x.kind) ∧ (wr.alloc (.cells #[.int .i64 x.kind, .int .i64 x.num, .slice sa x.kids.length sc] 34)).drew.cell? ⟨wr.heap.size, 1, none⟩ = some (.int .i64 x.num) ∧ (wr.alloc (.cells #[.int .i64 x.kind, .int .i64 x.num, .slice sa x.kids.length sc] 34)).drew.cell? ⟨wr.heap.size, 2, none⟩ = some (.slice sa x.kids.length sc)) := tuck
    ⟨⟨Nat.lt_of_lt_of_le z4 hbk.size, (hbk.cell (p := ⟨w.heap.size + 1 + 1, 2, none⟩) z4).trans a2⟩, k0.facts.2.1, k0.facts.2.2.1, k0.facts.2.2.2.1⟩
   have HKV := tuck k0
   have hkne : wr.heap.size ≠ w.heap.size + 1 + 1 + 1 := by omega
   have HBK := tuck (bAfter HB.out hbk)
   have HYK := tuck (HY4.out.below hbk)
   have HYZK := tuck (HYZ.out.below hbk)
   have HCSK := tuck ((hbk.block _ hzr4).trans HCS.out)
   have HROK := tuck (HRO.out.keep (fun i _ => hbk.cell (p := ⟨w.heap.size + 1 + 1 + 1, 0 + i, none⟩) hzr4) (fun y hy => SameAt.of_block (hbk.block y (HF.out y hy).2)))
   have HFK : Hid (∀ y ∈ F, w.heap.size + 1 + 1 + 1 < y ∧ y < (wr.alloc (.cells #[.int .i64 x.kind, .int .i64 x.num, .slice sa x.kids.length sc] 34)).heap.size) := tuck fun y hy => ⟨(HF.out y hy).1, Nat.lt_of_lt_of_le (HF.out y hy).2 hbk.size⟩
   have hzrk : w.heap.size + 1 + 1 + 1 < (wr.alloc (.cells #[.int .i64 x.kind, .int .i64 x.num, .slice sa x.kids.length sc] 34)).heap.size := Nat.lt_of_lt_of_le hzr4 hbk.size
   clear hbk k0 a0 a1 a2 c0 c1 c2 HB HYZ HY4 HCS HRO HF hzr4
   generalize wr.alloc (.cells #[.int .i64 x.kind, .int .i64 x.num, .slice sa x.kids.length sc] 34) = WK at *
   generalize wr.heap.size = gk at *
   go_region_held3 (fun w' => (w.heap.size + 1 + 1 < w'.heap.size ∧ w'.cell? ⟨w.heap.size + 1 + 1, 2, none⟩ = some (.slice (some ⟨w.heap.size + 1 + 1 + 1, 0, none⟩) l.length l.length)) ∧ w'.cell? ⟨gk, 0, none⟩ = some (.int .i64 x.kind) ∧ w'.cell? ⟨gk, 1, none⟩ = some (.int .i64 x.num) ∧ w'.cell? ⟨gk, 2, none⟩ = some (.slice sa x.kids.length sc)) (first | exact HS0.out | exact ⟨⟨HV3.out.facts.1, HV3.out.facts.2.2.2.1⟩, HK3.out.facts.2.1, HK3.out.facts.2.2.1, HK3.out.facts.2.2.2.1⟩ | exact ⟨⟨HV4.out.facts.1, HV4.out.facts.2.2.2.1⟩, HK4.out.facts.2.1, HK4.out.facts.2.2.1, HK4.out.facts.2.2.2.1⟩) ((go_at_call 45; refine (HCALL.out _ (bAfter HBK.out (Below.refl _ _).drew)).mono ?_; rintro e w3 ⟨hb3, tv, rfl, sv, F2, rfl, hs2, hnd2, hF2⟩; obtain ⟨sva, svc, rfl⟩ := hs2.form; have HV3 := tuck ((HYK.out.below (Below.refl _ _).drew).below hb3); have HV4 := tuck (HV3.out.far3 (Nat.ne_of_lt (Nat.lt_succ_self _)) (q * 3) (q * 3 + 1) (q * 3 + 2) (.int .i64 x.kind) (.int .i64 x.num) (.slice sva x.kids.length svc)); have HC3 := tuck ((hb3.block (w.heap.size + 1 + 1 + 1) hzrk).trans HCSK.out); have c30 := ((block_of_cells HC3.out).2.1 (q * 3)).trans (Array.getElem?_eq_getElem (by omega)); have c31 := ((block_of_cells HC3.out).2.1 (q * 3 + 1)).trans (Array.getElem?_eq_getElem (by omega)); have c32 := ((block_of_cells HC3.out).2.1 (q * 3 + 2)).trans (Array.getElem?_eq_getElem (by omega)); have c3f := (block_of_cells HC3.out).2.2; have HK3 := tuck ((HKV.out.below (Below.refl _ _).drew).below hb3); have HK4 := tuck (HK3.out.far3 hkne (q * 3) (q * 3 + 1) (q * 3 + 2) (.int .i64 x.kind) (.int .i64 x.num) (.slice sva x.kids.length svc))))
   have HIN := tuck hs2
   have HN2 := tuck hnd2
   have HF2 := tuck hF2
   have HB' := tuck hb3
   clear hs2 hnd2 hF2 hb3 c30 c31 c32 c3f
   go_wp2_with fail
   go_roundw
   case rel =>
    have hd : WK.drew.heap.size = WK.heap.size := rfl
    have hRF : w.heap.size + 1 + 1 + 1 ∉ F := fun h => by have := (HFK.out _ h).1; omega
    have hRF2 : w.heap.size + 1 + 1 + 1 ∉ F2 := fun h => by have := (HF2.out _ h).1; omega
    have hro3 : RowOwn w3 (l.take q) (w.heap.size + 1 + 1 + 1) 0 F := HROK.out.keep (fun i _ => HB'.out.cell (p := ⟨w.heap.size + 1 + 1 + 1, 0 + i, none⟩) hzrk) (fun y hy => SameAt.of_block (HB'.out.block y (HFK.out y hy).2))
    obtain ⟨hp1, hp2⟩ := row_put HC3.out hlt hcz hro3 HIN.out hRF hRF2
    have hb5 := bAfter HBK.out (bAfter (Below.refl _ _).drew HB'.out)
    refine ⟨q + 1, F ++ F2, by omega, by go_num, bSet3 hb5 (by omega) _ _ _ _ _ _, ?_, HV4.out, hp1, by rw [HTAKE1.out]; exact hp2, ?_, fun y hy => ?_⟩
    ·exact (((HYZK.out.below (Below.refl _ _).drew).below HB'.out).far3 (by omega) _ _ _ _ _ _)
    ·refine List.nodup_append.2 ⟨HND.out, HN2.out, fun a ha b hb e => ?_⟩
     have := (HFK.out a ha).2
     have := (HF2.out b hb).1
     omega
    ·rw [size_set3]
     have hz := HB'.out.size
     rcases List.mem_append.1 hy with hy | hy
     ·have := HFK.out y hy
      omega
     ·have := HF2.out y hy
      omega
   case measure => simp [intOf]; omega
  ·have hge2 : ¬ ((q : Int) < (l.length : Int)) := by omega
   have e : q = l.length := by omega
   subst e
   obtain ⟨zv, v0, v1, v2, vf⟩ := HYZ.out.facts
   go_wp2_with fail
   refine bodyPost_ret (v := .agg #[.int .i64 k, .int .i64 n, (.slice (some ⟨w.heap.size + 1 + 1 + 1, 0, none⟩) l.length l.length)]) (by simp [results, Tryz.results45, go_sem, *]) rfl (HPOST.out _ _ ((w.heap.size + 1 + 1 + 1) :: F) ?_ ?_ (List.nodup_cons.2 ⟨fun h => by have := (HF.out _ h).1; omega, HND.out⟩) fun y hy => ?_)
   ·exact bSet3 HB.out (by omega) _ _ _ _ _ _
   ·have hso : SlOwn wr l (.slice (some ⟨w.heap.size + 1 + 1 + 1, 0, none⟩) l.length l.length) ((w.heap.size + 1 + 1 + 1) :: F) := by
     have hro := HRO.out
     rw [List.take_length] at hro
     exact ⟨some ⟨w.heap.size + 1 + 1 + 1, 0, none⟩, l.length, w.heap.size + 1 + 1 + 1, F, rfl, by unfold maxLen; omega, Or.inr ⟨rfl, rfl, (block_of_cells HCS.out).2.2⟩, fun _ => hro⟩
    refine hso.set3 (fun h => ?_) _ _ _ _ _ _
    rcases List.mem_cons.1 h with h | h
    ·omega
    ·have := (HF.out _ h).1; omega
   ·rw [size_set3]
    have := (block_of_cells HCS.out).1
    rcases List.mem_cons.1 hy with rfl | hy
    ·omega
    ·have := HF.out y hy
     omega
end Go.Proofs.YtpddjebdncaceaaGreat
namespace Go.Proofs.YtpddjebdncaceaaGreat
open Go.RowKit
end Go.Proofs.YtpddjebdncaceaaGreat
namespace Go.Proofs.YtpddjebdncaceaaGreat
open Go.RowKit
def BoxAt (g : Nat) (k n : Int) (s : Value) (w : World) : Prop := g < w.heap.size ∧ w.cell? ⟨g, 0, none⟩ = some (.int .i64 k) ∧ w.cell? ⟨g, 1, none⟩ = some (.int .i64 n) ∧ w.cell? ⟨g, 2, none⟩ = some s
theorem BoxAt.below {g : Nat} {k n : Int} {s : Value} {w w' : World} (h : BoxAt g k n s w) (hb : Below w.heap.size w w') : BoxAt g k n s w' :=
 ⟨Nat.lt_of_lt_of_le h.1 hb.size, (hb.cell (p := ⟨g, 0, none⟩) h.1).trans h.2.1, (hb.cell (p := ⟨g, 1, none⟩) h.1).trans h.2.2.1, (hb.cell (p := ⟨g, 2, none⟩) h.1).trans h.2.2.2⟩
end Go.Proofs.YtpddjebdncaceaaGreat
namespace Go.Proofs.YtpddjebdncaceaaGreat
open Go.RowKit
theorem sameAt_set {w : World} {p : Addr} {u : Value} {g : Nat} (h : g ≠ p.block) : SameAt w (w.setCell p u) g := SameAt.of_block (Below.heap_setCell w p u g h)
theorem SameAt.trans {a b c : World} {g : Nat} (h : SameAt a b g) (k : SameAt b c g) : SameAt a c g := fun i => ⟨(k i).1.trans (h i).1, (k i).2.trans (h i).2⟩
end Go.Proofs.YtpddjebdncaceaaGreat
namespace Go.Proofs.YtpddjebdncaceaaGreat
open Go.RowKit
end Go.Proofs.YtpddjebdncaceaaGreat
namespace Go.Proofs.YtpddjebdncaceaaGreat
open Go.RowKit
theorem BoxAt.set1 {g : Nat} {k n : Int} {s : Value} {w : World} {p : Addr} {u : Value} (h : BoxAt g k n s w) (hp : p.block ≠ g) : BoxAt g k n s (w.setCell p u) := by
 have hz : (w.setCell p u).heap.size = w.heap.size := by simp [World.setCell]
 exact ⟨by rw [hz]; exact h.1, (World.cell?_setCell_far w p _ u hp).trans h.2.1, (World.cell?_setCell_far w p _ u hp).trans h.2.2.1, (World.cell?_setCell_far w p _ u hp).trans h.2.2.2⟩
theorem VarAt.set3 {g : Nat} {k n k' n' : Int} {s s' : Value} {w : World} (h : VarAt g k n s w) : VarAt g k' n' s' (((w.setCell ⟨g, 0, none⟩ (.int .i64 k')).setCell ⟨g, 1, none⟩ (.int .i64 n')).setCell ⟨g, 2, none⟩ s') := by
 have h0 : VarAt g k' n s (w.setCell ⟨g, 0, none⟩ (.int .i64 k')) := by
  have := block_set h 0 (.int .i64 k')
  simpa [VarAt] using this
 have h1 : VarAt g k' n' s ((w.setCell ⟨g, 0, none⟩ (.int .i64 k')).setCell ⟨g, 1, none⟩ (.int .i64 n')) := by
  have := block_set h0 1 (.int .i64 n')
  simpa [VarAt] using this
 have := block_set h1 2 s'
 simpa [VarAt] using this
theorem VarAt.four {g : Nat} {k n : Int} {s : Value} {w : World} (h : VarAt g k n s w) : g < w.heap.size ∧ w.cell? ⟨g, 0, none⟩ = some (.int .i64 k) ∧ w.cell? ⟨g, 1, none⟩ = some (.int .i64 n) ∧ w.cell? ⟨g, 2, none⟩ = some s := ⟨h.facts.1, h.facts.2.1, h.facts.2.2.1, h.facts.2.2.2.1⟩
end Go.Proofs.YtpddjebdncaceaaGreat
namespace Go.Proofs.YtpddjebdncaceaaGreat
open Go
def noDefer (ops : Array Oper) : Bool := ops.all fun o => match o.op with | .defer _ => false | _ => true
theorem noDefer_spec {ops : Array Oper} (h : noDefer ops = true) {j : Nat} {o : Oper} (hj : ops[j]? = some o) : ∀ c, o.op ≠ .defer c := by
 intro c hc
 unfold noDefer at h
 rw [Array.all_eq_true'] at h
 have := h o (Array.mem_of_getElem? hj)
 rw [hc] at this
 cases this
section
variable {P : Program} {ops : Array Oper} {Q : Exit → Act → World → Prop} {md : Region.Mode} {l n : Nat}
theorem uponIn_of {o : Oper} {a : Act} {K : Act → World → Prop} {r : Result Next} (h : o.upon P a K Q r) : o.uponIn (Fence.wide.inRound l) n P a K Q r := by
 unfold Oper.upon at h
 unfold Oper.uponIn
 split at h
 ·exact h
 ·exact h
 ·exact h
 ·exact ⟨fun h => (by cases h), CallsIn.inRound l (callsIn_wide.2 h)⟩
 ·refine ⟨fun h => (by cases h), fun c cs _ => ?_⟩
  obtain ⟨v, w', h1, h2⟩ := h c cs
  exact ⟨v, w', h1, stepsIn_wide.2 h2⟩
 ·exact h
 ·exact h.elim
theorem wpOpIn_of (hnd : noDefer ops = true) (ho : ¬ LetsOut Q) {i : Nat} {K : Act → World → Prop} {a : Act} {w : World} (h : wpOp P ops Q i K a w) : wpOpIn (Fence.wide.inRound l) n P ops Q i K a w := by
 unfold wpOp at h
 unfold wpOpIn
 split
 ·rename_i hi
  simpa [hi] using h
 ·rename_i o hoi
  have ho' := ho
  simp only [hoi] at h
  split
  ·rename_i hw
   simp only [hw, if_true] at h
   refine ⟨fun _ _ => trivial, ?_⟩
   rw [Oper.semAt_eq _ _ _ (noDefer_spec hnd hoi)]
   rcases h with h | ⟨-, h⟩
   ·exact uponIn_of h
   ·exact absurd h ho'
  ·rename_i hw
   simp only [hw] at h
   exact ⟨fun _ _ => trivial, h⟩
theorem wpAnyIn_of (hnd : noDefer ops = true) (ho : ¬ LetsOut Q) : ∀ (fuel : Nat) (L : Array Bool) (a : Act) (w : World), wpAny P md ops Q fuel L a w → wpAnyIn (Fence.wide.inRound l) n P md ops Q fuel L a w
 | 0, _, _, _, h => h
 | fuel + 1, _, _, _, h => ⟨h.1, fun i hi => wpOpIn_mono (fun a' w' h' => wpAnyIn_of hnd ho fuel _ a' w' h') (wpOpIn_of hnd ho (h.2 i hi))⟩
theorem AnyTwo.beginIn {id : Nat} {a : Act} {w : World} (S1 S2 : World → Prop) (m : Nat) (hm : P.follows .mixedOrders = true) (hnd : noDefer ops = true) (ho : ¬ LetsOut Q)
  (h : AnyTwo P .any ops Q S1 S2 m ops.size (Array.replicate ops.size false) a w.drew) : (Code.region id ops true).wpIn (Fence.wide.inRound l) n P Q a w :=
 wpIn_region_any hm (wpAnyIn_of hnd ho _ _ _ _ (AnyTwo.any _ _ _ _ h))
theorem AnyTwo.beginN {id : Nat} {a : Act} {w : World} (S1 S2 : World → Prop) (m : Nat) (hm : P.follows .mixedOrders = true) (hnd : noDefer ops = true)
  (h : AnyTwo P .any ops (fun e a w => e = .normal ∧ Q .normal a w) S1 S2 m ops.size (Array.replicate ops.size false) a w.drew) : (Code.region id ops true).wpIn (Fence.wide.inRound l) n P Q a w :=
 wpIn_mono (AnyTwo.beginIn S1 S2 m hm hnd (fun ⟨_, _, h⟩ => nomatch h.1) h) (fun e a w h => by rw [h.1]; exact h.2)
end
end Go.Proofs.YtpddjebdncaceaaGreat
