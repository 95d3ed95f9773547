/-
  Stack, Node, Text.
-/
import Derived.Test.YtpddjebdncaceaaGreatQ07
import Derived.Test.YtpddjebdncaceaaGreatQ08
import Derived.Test.YtpddjebdncaceaaGreatQ10
import Derived.Test.YtpddjebdncaceaaGreatQ12
import Derived.Test.YtpddjebdncaceaaGreatQ13
import Derived.Test.YtpddjebdncaceaaGreatQ16
import Derived.Test.YtpddjebdncaceaaGreatQ24
import Derived.Laws.IdiomStrings
import Derived.OwnWalk
namespace Go.Proofs.YtpddjebdncaceaaGreat
open Go.RowKit
def stkCells : List (Tm × Value × Nat) → List Value
 | [] => []
 | (t, s, i) :: r => I6 t.kind :: I6 t.num :: s :: I6 i :: stkCells r
theorem stkCells_append : ∀ a b : List (Tm × Value × Nat), stkCells (a ++ b) = stkCells a ++ stkCells b
 | [], b => rfl
 | (t, s, i) :: a, b => by simp only [List.cons_append, stkCells, stkCells_append a b]
theorem stkCells_length : ∀ a : List (Tm × Value × Nat), (stkCells a).length = a.length * 4
 | [] => rfl
 | (t, s, i) :: a => by simp only [stkCells, List.length_cons, stkCells_length a]; omega
def StkAt (g o : Nat) (T : TypeId) (cs : Array Value) (ps : List (Tm × Value × Nat)) (M : Nat → Prop) (w : World) : Prop :=
 ps.length ≤ 100 ∧ ∃ v, w.heap[g]? = some (.cells (cs.setIfInBounds o v) T (0, 0)) ∧ o < cs.size ∧ w.ownsRow (g + 1) 169 4 v ps.length (stkCells ps) ∧ M = fun i => i = g ∨ v.ownBlock = some i
theorem stk_cells {w : World} {g o : Nat} {T : TypeId} {cs : Array Value} {v : Value} (h : w.heap[g]? = some (.cells (cs.setIfInBounds o v) T (0, 0))) (ho : o < cs.size) : g < w.heap.size ∧ w.cell? ⟨g, o, none⟩ = some v ∧ w.frozen? ⟨g, o, none⟩ = false := by
 obtain ⟨z, e0, ef⟩ := block_of_cells h
 exact ⟨z, (e0 o).trans (by simp [ho]), ef o⟩
theorem stk_set {w : World} {g o : Nat} {T : TypeId} {cs : Array Value} {v : Value} (h : w.heap[g]? = some (.cells (cs.setIfInBounds o v) T (0, 0))) (u : Value) : (w.setCell ⟨g, o, none⟩ u).heap[g]? = some (.cells (cs.setIfInBounds o u) T (0, 0)) := by
 have := block_set h o u
 rwa [show (cs.setIfInBounds o v).setIfInBounds o u = cs.setIfInBounds o u by simp] at this
theorem StkAt.below {g o : Nat} {T : TypeId} {cs : Array Value} {ps : List (Tm × Value × Nat)} {M : Nat → Prop} {w w' : World} (h : StkAt g o T cs ps M w) (hb : Below w.heap.size w w') : StkAt g o T cs ps M w' := by
 obtain ⟨h1, v, h2, ho, h3, h4⟩ := h
 exact ⟨h1, v, (hb.block g (block_of_cells h2).1).trans h2, ho, h3.kept (grown_of_below hb) (by cases v.ownBlock <;> simp), h4⟩
theorem StkAt.lt {g o : Nat} {T : TypeId} {cs : Array Value} {ps : List (Tm × Value × Nat)} {M : Nat → Prop} {w : World} (h : StkAt g o T cs ps M w) : ∀ i, M i → g ≤ i ∧ i < w.heap.size := by
 obtain ⟨h1, v, h2, ho, h3, rfl⟩ := h
 rintro i (rfl | hi)
 ·exact ⟨Nat.le_refl _, (block_of_cells h2).1⟩
 ·have := h3.lt i hi
  exact ⟨by omega, this.2⟩
theorem StkAt.own {g o : Nat} {T : TypeId} {cs : Array Value} {ps : List (Tm × Value × Nat)} {M : Nat → Prop} {w : World} (h : StkAt g o T cs ps M w) : M g := by
 obtain ⟨h1, v, h2, ho, h3, rfl⟩ := h
 exact Or.inl rfl
theorem info_passed : (Tryz.prog.info? 169).map (fun i => (i.zero, i.size, i.bytes)) = some (some (.agg #[I6 0, I6 0, .slice none 0 0, I6 0]), 4, 48) := by kernel_rfl
theorem row_shrink {w : World} {base n cap gb : Nat} {e : TypeId} {xs ys : List Value} (h : w.ownsRow base e 4 (.slice (some ⟨gb, 0, none⟩) (n + 1) cap) (n + 1) (xs ++ ys)) (hx : xs.length = n * 4) : w.ownsRow base e 4 (.slice (some ⟨gb, 0, none⟩) n cap) n xs := by
 rcases h.2 with ⟨h', _⟩ | ⟨g', cap', cur, h', hb, hg, hnc, hcm, hcs, htake⟩
 ·simp at h'
 ·simp only [Value.slice.injEq, Option.some.injEq, Addr.mk.injEq, and_true, true_and] at h'
  obtain ⟨rfl, rfl⟩ := h'
  refine ⟨hx, .inr ⟨gb, cap, cur, rfl, hb, hg, by omega, hcm, hcs, ?_⟩⟩
  have e : cur.toList.take (n * 4) = (cur.toList.take ((n + 1) * 4)).take (n * 4) := by
   rw [List.take_take]
   congr 1
   omega
  rw [e, htake, List.take_append_of_le_length (by omega), List.take_of_length_le (by omega)]
def StackPost (g o : Nat) (T : TypeId) (cs : Array Value) (ps : List (Tm × Value × Nat)) (M : Nat → Prop) (w : World) (e : Ending) (w' : World) : Prop := e = .returned (.tuple #[]) ∧ ∃ M', Step M w w' M' ∧ StkAt g o T cs ps M' w'
theorem stack_push {g o gg cap : Nat} {T : TypeId} {cs : Array Value} {ps : List (Tm × Value × Nat)} {x : Tm × Value × Nat} {v : Value} {M : Nat → Prop} {w W w1 : World} (hps : ps.length < 100) (h1 : w.heap[g]? = some (.cells (cs.setIfInBounds o v) T (0, 0))) (ho : o < cs.size) (h2 : w.ownsRow (g + 1) 169 4 v ps.length (stkCells ps))
  (hM : M = fun i => i = g ∨ v.ownBlock = some i) (hb : Below w.heap.size w W) (hown : w1.ownsRow (g + 1) 169 4 (.slice (some ⟨gg, 0, none⟩) (ps.length + 1) cap) (ps.length + 1) (stkCells ps ++ stkCells [x])) (hgrow : W.grownBy w1 v.ownBlock) (hat : v.ownBlock = some gg ∨ gg = W.heap.size) :
  StackPost g o T cs (ps ++ [x]) M w (.returned (.tuple #[])) (w1.setCell ⟨g, o, none⟩ (.slice (some ⟨gg, 0, none⟩) (ps.length + 1) cap)) := by
 have hgb := (block_of_cells h1).1
 have hgg := hown.lt gg rfl
 have hne : some g ≠ v.ownBlock := fun e => by have := h2.lt g e.symm; omega
 have hgv : g < W.heap.size := Nat.lt_of_lt_of_le hgb hb.size
 have hc1 : w1.heap[g]? = some (.cells (cs.setIfInBounds o v) T (0, 0)) := (hgrow.block g hgv hne).trans ((hb.block g hgb).trans h1)
 refine ⟨rfl, fun i => i = g ∨ gg = i, ⟨hgrow.os.trans hb.os, hgrow.tape.trans hb.tape, hgrow.output.trans hb.output, ?_, fun i hi hn => ?_, fun i hi hm => ?_, ?_⟩, ?_⟩
 ·have := hb.size
  have := hgrow.size
  simp only [World.setCell, Array.size_modify]
  omega
 ·rw [Below.heap_setCell _ _ _ _ (fun e => hn (by rw [hM]; exact Or.inl e))]
  exact (hgrow.block i (Nat.lt_of_lt_of_le hi hb.size) (fun e => hn (by rw [hM]; exact Or.inr e.symm))).trans (hb.block i hi)
 ·rw [hM]
  rcases hm with hm | hm
  ·exact Or.inl hm
  ·rcases hat with hat | hat
   ·exact Or.inr (by rw [hat, hm])
   ·have := hb.size
    omega
 ·rintro i (rfl | hi)
  ·have := hgrow.size
   simp only [World.setCell, Array.size_modify]
   omega
  ·simp only [World.setCell, Array.size_modify]
   omega
 ·refine ⟨by simp; omega, .slice (some ⟨gg, 0, none⟩) (ps.length + 1) cap, ?_, ho, ?_, ?_⟩
  ·exact stk_set hc1 _
  ·rw [stkCells_append, List.length_append]
   exact ownsRow_setCell_below hown (a := ⟨g, o, none⟩) (Nat.lt_succ_self g) _
  ·funext i
   simp only [Value.ownBlock, Option.some.injEq]
set_option maxRecDepth 100000 in
set_option maxHeartbeats 1600000 in
theorem push_any {g o : Nat} {T : TypeId} {cs : Array Value} {ps : List (Tm × Value × Nat)} {M : Nat → Prop} {w : World} (k n : Int) (a : Option Addr) (L cap i : Nat) (t : Tm) (ht : t.kind = k ∧ t.num = n) (hps : ps.length < 100) (hst : StkAt g o T cs ps M w) :
  Calls Tryz.prog 115 #[.pointer (some ⟨g, o, none⟩), .agg #[I6 k, I6 n, .slice a L cap], I6 i] w (StackPost g o T cs (ps ++ [(t, .slice a L cap, i)]) M w) := by
 obtain ⟨-, v, h1, ho, h2, hM⟩ := hst
 obtain ⟨va, vc, rfl⟩ := own_form h2
 obtain ⟨z, c0, f0⟩ := stk_cells h1 ho
 have hcl : stkCells [(t, .slice a L cap, i)] = [I6 k, I6 n, .slice a L cap, I6 i] := by simp [stkCells, ht.1, ht.2]
 have HP : Hid (∀ (W w1 : World) (gg cap' : Nat), Below w.heap.size w W → w1.ownsRow (g + 1) 169 4 (.slice (some ⟨gg, 0, none⟩) (ps.length + 1) cap') (ps.length + 1) (stkCells ps ++ [I6 k, I6 n, .slice a L cap, I6 i]) → W.grownBy w1 (Value.slice va ps.length vc).ownBlock → ((Value.slice va ps.length vc).ownBlock = some gg ∨ gg = W.heap.size) →
   StackPost g o T cs (ps ++ [(t, .slice a L cap, i)]) M w (.returned (.tuple #[])) (w1.setCell ⟨g, o, none⟩ (.slice (some ⟨gg, 0, none⟩) (ps.length + 1) cap'))) := tuck fun W w1 gg cap' a1 a2 a3 a4 => by
  rw [← hcl] at a2
  exact stack_push hps h1 ho h2 hM a1 a2 a3 a4
 have hbU : g + 1 ≤ w.heap.size := z
 have HB1 := tuck (below1 w (.cells #[I6 k, I6 n, .slice a L cap] 34))
 have HOWN := tuck (h2.kept (grown_of_below HB1.out) (by cases (Value.slice va ps.length vc).ownBlock <;> simp))
 have c0' := (HB1.out.cell (p := ⟨g, o, none⟩) z).trans c0
 have f0' := (HB1.out.frozen (p := ⟨g, o, none⟩) z).trans f0
 have HGR : Hid (some g ≠ (Value.slice va ps.length vc).ownBlock) := tuck fun e => by have := h2.lt g e.symm; omega
 obtain ⟨i0, hi0, hz0, hz1, hz2⟩ := info_parts info_passed
 have hgz : g < (w.alloc (.cells #[I6 k, I6 n, .slice a L cap] 34)).heap.size := Nat.lt_of_lt_of_le z HB1.out.size
 have hbW : g + 1 ≤ (w.alloc (.cells #[I6 k, I6 n, .slice a L cap] 34)).heap.size := Nat.le_trans hbU HB1.out.size
 have x0 : (w.alloc (.cells #[I6 k, I6 n, .slice a L cap] 34)).cell? ⟨w.heap.size, 0, none⟩ = some (I6 k) := by go_simp
 have x1 : (w.alloc (.cells #[I6 k, I6 n, .slice a L cap] 34)).cell? ⟨w.heap.size, 1, none⟩ = some (I6 n) := by go_simp
 have x2 : (w.alloc (.cells #[I6 k, I6 n, .slice a L cap] 34)).cell? ⟨w.heap.size, 2, none⟩ = some (.slice a L cap) := by go_simp
 have xz : w.heap.size < (w.alloc (.cells #[I6 k, I6 n, .slice a L cap] 34)).heap.size := by simp
 generalize StackPost g o T cs (ps ++ [(t, .slice a L cap, i)]) M w = post at *
 clear h1 h2 hcl ht hM ho
 go_enter Tryz.func115, Tryz.ntmps115
 go_wp2_with fail
 generalize (w.alloc (.cells #[I6 k, I6 n, .slice a L cap] 34)) = W0 at *
 have hown1 : (W0.alloc (.cells #[I6 k, I6 n, .slice a L cap, I6 i] 169)).drew.ownsRow (g + 1) 169 4 (.slice va ps.length vc) ps.length (stkCells ps) := HOWN.out.kept (grown_of_below (below_drew_alloc W0 _)) (by cases (Value.slice va ps.length vc).ownBlock <;> simp)
 have hnews : ∀ j u, ([I6 k, I6 n, .slice a L cap, I6 i] : List Value)[j]? = some u → (W0.alloc (.cells #[I6 k, I6 n, .slice a L cap, I6 i] 169)).drew.cell? ((⟨W0.heap.size, 0, none⟩ : Addr).add j) = some u := World.news_of_block (cs := #[I6 k, I6 n, .slice a L cap, I6 i]) (t := 169) (fr := (0, 0)) (heap_new W0 _)
 have HONE : Hid (∀ u ∈ ([I6 k, I6 n, .slice a L cap, I6 i] : List Value), u.oneCell' = true) := tuck (by simp [Value.oneCell'])
 have HBASE : Hid (g + 1 ≤ (W0.alloc (.cells #[I6 k, I6 n, .slice a L cap, I6 i] 169)).drew.heap.size) := tuck (by simp; omega)
 have HH : Hid ((W0.alloc (.cells #[I6 k, I6 n, .slice a L cap, I6 i] 169)).drew.heap.size = W0.heap.size + 1) := tuck (by simp)
 have HGL : Hid (g < (W0.alloc (.cells #[I6 k, I6 n, .slice a L cap, I6 i] 169)).drew.heap.size) := tuck (by simp; omega)
 have K0 : Hid ((W0.alloc (.cells #[I6 k, I6 n, .slice a L cap, I6 i] 169)).drew.cell? ⟨g, o, none⟩ = some (.slice va ps.length vc)) := tuck (((below_drew_alloc W0 _).cell (p := ⟨g, o, none⟩) hgz).trans c0')
 have KF : Hid ((W0.alloc (.cells #[I6 k, I6 n, .slice a L cap, I6 i] 169)).drew.frozen? ⟨g, o, none⟩ = false) := tuck (((below_drew_alloc W0 _).frozen (p := ⟨g, o, none⟩) hgz).trans f0')
 have HOWN1 := tuck hown1
 have HNEWS := tuck hnews
 clear hown1 hnews
 go_region_law ((refine step_append_lies _ (by rfl) _ _ _ (by rfl) (g + 1) 169 i0 _ 4 48 Tryz.underlying79 hi0 hz0 hz1 hz2 rfl (by omega) _ _ _ (by rfl) HOWN1.out ⟨W0.heap.size, 0, none⟩ 1 1 [I6 k, I6 n, .slice a L cap, I6 i] (by rfl) (by rfl) HNEWS.out HONE.out (by omega) (by unfold maxLen; omega) (by omega) HBASE.out (W0.heap.size + 1) HH.out ?_; intro gg cap' w1 hown1 hgrow hat hlt1; have k0 := (hgrow.cell_far ⟨g, o, none⟩ HGL.out HGR.out).trans K0.out; have k1 := (hgrow.frozen_far ⟨g, o, none⟩ HGL.out HGR.out).trans KF.out))
 all_goals go_wp2_with fail
 all_goals (go_end0; exact HP.out _ w1 gg cap' (bAfter HB1.out (below_drew_alloc W0 _)) hown1 hgrow (hat.imp id (fun h => h.trans HH.out.symm)))
set_option maxRecDepth 100000 in
set_option maxHeartbeats 1600000 in
theorem pop_any {g o : Nat} {T : TypeId} {cs : Array Value} {ps : List (Tm × Value × Nat)} {x : Tm × Value × Nat} {M : Nat → Prop} {w : World} (hst : StkAt g o T cs (ps ++ [x]) M w) :
  Calls Tryz.prog 127 #[.pointer (some ⟨g, o, none⟩)] w (StackPost g o T cs ps M w) := by
 have hlt := hst.lt
 obtain ⟨hl, v, h1, ho, h2, hM⟩ := hst
 rw [List.length_append, List.length_singleton] at hl h2
 rcases h2.2 with ⟨-, h'⟩ | ⟨gb, cap, cur, rfl, hb, hgc, hnc, hcm, hcs, htake⟩
 ·omega
 obtain ⟨z, c0, f0⟩ := stk_cells h1 ho
 have HP : Hid (StackPost g o T cs ps M w (.returned (.tuple #[])) (w.setCell ⟨g, o, none⟩ (.slice (some ⟨gb, 0, none⟩) ps.length cap)).drew) := tuck (by
  refine ⟨rfl, M, ((Step.refl fun i hi => (hlt i hi).2).setCell (p := ⟨g, o, none⟩) (by rw [hM]; exact Or.inl rfl) _).and (Below.refl _ _).drew, by omega, .slice (some ⟨gb, 0, none⟩) ps.length cap, ?_, ho, ?_, by rw [hM]; rfl⟩
  ·show (w.setCell ⟨g, o, none⟩ (.slice (some ⟨gb, 0, none⟩) ps.length cap)).heap[g]? = _
   exact stk_set h1 _
  ·rw [stkCells_append] at h2
   exact World.ownsRow.drew (ownsRow_setCell_below (row_shrink h2 (stkCells_length ps)) (a := ⟨g, o, none⟩) (Nat.lt_succ_self g) _))
 generalize StackPost g o T cs ps M w = post at *
 generalize ps.length = n at *
 clear h1 h2 htake hgc hM hlt ho
 have hn0 : (n : Int) + 1 - 1 = n := by omega
 have hnc' : (n : Int) ≤ cap := by omega
 go_enter Tryz.func127, Tryz.ntmps127
 go_wp2_with fail
 go_region
 all_goals (go_end0; exact HP.out)
end Go.Proofs.YtpddjebdncaceaaGreat
namespace Go.Proofs.YtpddjebdncaceaaGreat
open Go.RowKit
theorem leaf_any (k n : Int) (w : World) : Calls Tryz.prog 109 #[I6 k, I6 n] w fun e w' => e = .returned (.agg #[I6 k, I6 n, .slice none 0 0]) ∧ Below w.heap.size w w' := by
 go_enter Tryz.func109, Tryz.ntmps109
 go_wp2
 refine bodyPost_ret (v := .agg #[I6 k, I6 n, .slice none 0 0]) (by simp [results, Tryz.results109, go_sem]) rfl ⟨rfl, below1 _ _⟩
theorem cellsL_one {r : List (Tm × Value)} {w : World} {B : Nat} (h : ∀ x ∈ r, SlIn w B x.1.kids x.2) : ∀ u ∈ cellsL r, u.oneCell' = true := by
 induction r with
 | nil => intro u hu; simp [cellsL] at hu
 | cons x r ih =>
  obtain ⟨t, s⟩ := x
  intro u hu
  simp only [cellsL, List.mem_cons] at hu
  rcases hu with rfl | rfl | rfl | hu
  ·rfl
  ·rfl
  ·obtain ⟨a, cap, e⟩ := (h _ (List.mem_cons_self ..)).form
   rw [show (u : Value) = .slice a t.kids.length cap from e]; rfl
  ·exact ih (fun x hx => h x (List.mem_cons_of_mem _ hx)) u hu
def NodePost (B : Nat) (k : Int) (l : List Tm) (w : World) (e : Ending) (w' : World) : Prop := ∃ s, e = .returned (.agg #[I6 k, I6 0, s]) ∧ SlIn w' B l s ∧ Below w.heap.size w w'
set_option maxRecDepth 100000 in
theorem node_any (B : Nat) (k : Int) (l : List Tm) (w : World) (v : Value) (hne : l ≠ []) (_hB : B ≤ w.heap.size) (hl : l.length ≤ 100000) (h : SlIn w B l v) : Calls Tryz.prog 86 #[I6 k, v] w (NodePost B k l w) := by
 obtain ⟨a, cap, b, o, rfl, hl2, hp, hrow⟩ := h
 obtain ⟨r, hr, hcell, hin⟩ := hrow.list
 have hrl : r.length = l.length := by rw [← hr, List.length_map]
 obtain ⟨i0, hi, hz0, hz1, hz2⟩ := info_parts info_term'
 obtain ⟨rfl, _⟩ := hp hne
 have HC := tuck hcell
 have HIN := tuck hin
 have HR := tuck hr
 have HRL := tuck hrl
 have HI := tuck hi
 have HZ0 := tuck hz0
 have HZ1 := tuck hz1
 have HZ2 := tuck hz2
 clear hcell hin hr hrl hrow hp hi hz0 hz1 hz2
 go_enter Tryz.func86, Tryz.ntmps86
 have hlt : b < w.heap.size := by
  cases r with
  | nil => exact absurd (by have := HRL.out; simpa using this.symm) hne
  | cons x r => exact World.block_lt_of_cell? w _ (HC.out 0 _ rfl)
 go_wp2_with (at_builtin; refine wpList_append_own _ rfl (.tmp 6) (.tmp 7) 32 rfl (w.heap.size + 1) 34 i0 _ 3 40 Tryz.underlying32 HI.out HZ0.out HZ1.out HZ2.out rfl (by decide) (.slice (some ⟨w.heap.size + 1, 0, none⟩) 0 0) 0 [] rfl ?own ⟨b, o, none⟩ l.length cap (cellsL r) rfl ?len ?cells ?one ?c63 ?cby ?cbase ?next)
 case own =>
  have := World.ownsRow_made (w.alloc (.cells #[I6 0, I6 0, .slice none 0 0] 34)) #[] 0 (base := w.heap.size + 1) (e := 34) (size := 3) (by simp) (by simp [maxLen]) rfl
  simpa using this
 case len => rw [cellsL_length, HRL.out]
 case cells =>
  intro j u hu
  have := HC.out j u hu
  have ea : (Addr.mk b o none).add j = ⟨b, o + j, none⟩ := by unfold Addr.add; split <;> simp_all
  rw [ea]
  exact ((below2 w _ _).cell (p := ⟨b, o + j, none⟩) hlt).trans this
 case one => exact cellsL_one HIN.out
 case c63 => simp [maxLen]; omega
 case cby => omega
 case cbase => simp
 case next =>
  intro v' w' hown hgrow _
  have hbel : Below w.heap.size w w' := (below2 w _ _).grown hgrow (by simp; omega) (fun g hg => by simp [Value.ownBlock] at hg; omega)
  have hz : w.heap.size < w'.heap.size := by have := hgrow.size; simp at this; omega
  have hc0 : ∀ i, w'.cell? ⟨w.heap.size, i, none⟩ = ((w.alloc (.cells #[I6 0, I6 0, .slice none 0 0] 34)).alloc (.cells #[] 34)).cell? ⟨w.heap.size, i, none⟩ := fun i =>
   World.cell?_of_block (hgrow.block w.heap.size (by simp; omega) (fun e => by simp [Value.ownBlock] at e))
  have hf0 : ∀ i, w'.frozen? ⟨w.heap.size, i, none⟩ = ((w.alloc (.cells #[I6 0, I6 0, .slice none 0 0] 34)).alloc (.cells #[] 34)).frozen? ⟨w.heap.size, i, none⟩ := fun i =>
   World.frozen?_of_block (hgrow.block w.heap.size (by simp; omega) (fun e => by simp [Value.ownBlock] at e))
  have hsl : ∃ g c, v' = .slice (some ⟨g, 0, none⟩) l.length c ∧ w.heap.size < g ∧ ∀ j u, (cellsL r)[j]? = some u → w'.cell? ⟨g, 0 + j, none⟩ = some u := by
   rcases hown.2 with ⟨_, h0⟩ | ⟨g, c, cur, rfl, hg, _⟩
   ·exact absurd (List.length_eq_zero_iff.1 h0) hne
   ·refine ⟨g, c, rfl, by omega, fun j u hu => ?_⟩
    rw [Nat.zero_add, hown.cellAt j (by have := (List.getElem?_eq_some_iff.1 hu).1; rw [cellsL_length, HRL.out] at this; exact this)]
    exact hu
  obtain ⟨g, c, rfl, hg, hsl⟩ := hsl
  have HSL := tuck hsl
  have HBEL := tuck hbel
  clear hsl hbel hown hgrow
  go_wp2_with fail
  refine bodyPost_ret (v := .agg #[I6 k, I6 0, .slice (some ⟨g, 0, none⟩) l.length c]) (by simp [results, Tryz.results86, go_sem, hc0]) rfl ?_
  have hb3 := bSet3 HBEL.out (Nat.le_refl w.heap.size) 0 1 2 (I6 k) (I6 0) (.slice (some ⟨g, 0, none⟩) l.length c)
  refine ⟨_, rfl, ⟨some ⟨g, 0, none⟩, c, g, 0, rfl, hl2, fun _ => ⟨rfl, by omega⟩, ?_⟩, hb3⟩
  have hrow : RowAt _ B (r.map (·.1)) g 0 := RowAt.of_list (fun j u hu => ?_) (fun x hx => (HIN.out x hx).below hb3)
  ·rw [HR.out] at hrow
   exact hrow
  have hne3 : ∀ i, (⟨w.heap.size, i, none⟩ : Addr) ≠ ⟨g, 0 + j, none⟩ := fun i e => by injection e; omega
  rw [World.cell?_setCell_other _ _ _ _ (hne3 _), World.cell?_setCell_other _ _ _ _ (hne3 _), World.cell?_setCell_other _ _ _ _ (hne3 _)]
  exact HSL.out j u hu
end Go.Proofs.YtpddjebdncaceaaGreat
namespace Go.Proofs.YtpddjebdncaceaaGreat
open Go.RowKit
def decS (n : Nat) : ByteArray := if n ≤ 9 then ByteArray.mk #[UInt8.ofNat (48 + n)] else ByteArray.mk #[UInt8.ofNat (48 + n / 10), UInt8.ofNat (48 + n % 10)]
def kidS (L : List ByteArray) (i : Nat) : ByteArray := L.getD i (ByteArray.mk #[])
def joinN (L : List ByteArray) : Nat → ByteArray
 | 0 => (ByteArray.mk #[])
 | q + 1 => (if 0 < q then joinN L q ++ (ByteArray.mk #[44]) else joinN L q) ++ kidS L q
def txtOf (k : Int) (n : Nat) (L : List ByteArray) : ByteArray :=
 if k = 1 then (ByteArray.mk #[35]) ++ decS n else if k = 2 then (ByteArray.mk #[42]) ++ decS n else if k = 6 then (ByteArray.mk #[78]) else if k = 7 then (ByteArray.mk #[48])
 else if k = 8 then (ByteArray.mk #[43]) ++ kidS L 0
 else if k = 11 then (ByteArray.mk #[33]) ++ kidS L 0
 else if k = 15 then (ByteArray.mk #[94]) ++ kidS L 0
 else if k = 16 then (ByteArray.mk #[95]) ++ kidS L 0
 else if k = 3 then (ByteArray.mk #[40]) ++ kidS L 0 ++ (ByteArray.mk #[62]) ++ kidS L 1 ++ (ByteArray.mk #[41])
 else if k = 13 then (ByteArray.mk #[40]) ++ kidS L 0 ++ (ByteArray.mk #[42]) ++ kidS L 1 ++ (ByteArray.mk #[41])
 else if k = 5 then (ByteArray.mk #[40]) ++ kidS L 0 ++ (ByteArray.mk #[32]) ++ kidS L 1 ++ (ByteArray.mk #[41])
 else if k = 4 then (ByteArray.mk #[91]) ++ kidS L 0 ++ (ByteArray.mk #[93]) ++ kidS L 1
 else if k = 10 then (ByteArray.mk #[123]) ++ joinN L 3 ++ (ByteArray.mk #[125])
 else if k = 14 then (ByteArray.mk #[124]) ++ joinN L 3 ++ (ByteArray.mk #[124])
 else if k = 12 then (ByteArray.mk #[64, 60]) ++ joinN L 3 ++ (ByteArray.mk #[62])
 else (ByteArray.mk #[60]) ++ joinN L 4 ++ (ByteArray.mk #[62])
mutual
def Tm.txt : Tm → ByteArray
 | .mk k n l => txtOf k n.toNat (txtL l)
def txtL : List Tm → List ByteArray
 | [] => []
 | t :: l => t.txt :: txtL l
end
theorem kidS_txt : ∀ (l : List Tm) (i : Nat) (h : i < l.length), kidS (txtL l) i = l[i].txt
 | t :: l, 0, h => by rw [txtL]; rfl
 | t :: l, i + 1, h => by
  have := kidS_txt l i (by simpa using h)
  rw [txtL]
  exact this
theorem decS_size (n : Nat) : (decS n).size ≤ 2 := by unfold decS; split <;> simp [ByteArray.size]
def StrPost (w : World) (s : ByteArray) (e : Ending) (w' : World) : Prop := e = .returned (.string s) ∧ Below w.heap.size w w'
theorem ba_empty (a : ByteArray) : a ++ ByteArray.mk #[] = a := by
 apply ByteArray.ext
 simp [ByteArray.data_append]
theorem ba_pair (x y : UInt8) : ByteArray.mk #[x] ++ ByteArray.mk #[y] = ByteArray.mk #[x, y] := by
 apply ByteArray.ext
 simp [ByteArray.data_append]
theorem byte_text (m : Nat) (hm : m ≤ 255) (W : World) : (convert 43 9 (.slice (some ⟨W.heap.size, 0, none⟩) 1 1)).run Tryz.prog (W.alloc (.cells #[.int .u8 m] 5)) = .ok (.string (ByteArray.mk #[UInt8.ofNat m])) (W.alloc (.cells #[.int .u8 m] 5)) := by
 have h := run_convert_bytes_back (P := Tryz.prog) (W.alloc (.cells #[.int .u8 m] 5)) 43 9 5 ⟨W.heap.size, 0, none⟩ 1 [UInt8.ofNat m] Tryz.underlying43 Tryz.underlying5 Tryz.underlying9 (fun j hj => by
  have hj0 : j = 0 := by simpa using hj
  subst hj0
  have e : (UInt8.ofNat m).toNat = m := by simp; omega
  simp only [List.getElem_cons_zero, e]
  show (W.alloc _).cell? ⟨W.heap.size, 0, none⟩ = _
  rw [World.cell?_alloc_new]
  rfl)
 exact h
set_option maxRecDepth 100000 in
set_option maxHeartbeats 1600000 in
theorem dec_any (n : Nat) (hn : n ≤ 99) (w : World) : Calls Tryz.prog 148 #[I6 n] w (StrPost w (decS n)) := by
 have HP : Hid (∀ s w', s = decS n → Below w.heap.size w w' → StrPost w (decS n) (.returned (.string s)) w') := tuck fun s w' h hb => by rw [h]; exact ⟨rfl, hb⟩
 generalize StrPost w (decS n) = post at *
 have h1 : decide ((n : Int) < -9223372036854775807) = false := decide_eq_false (by omega)
 have h2 : decide ((n : Int) < 0) = false := decide_eq_false (by omega)
 have HT := tuck byte_text
 go_enter Tryz.func148, Tryz.ntmps148
 go_wp2_with fail
 go_loopw [0, 3] (fun m out wr => ∃ (k : Nat) (o : ByteArray), out = .string o ∧ m = I6 k ∧ k ≤ n ∧ Below w.heap.size w wr ∧ ((k = n ∧ o = ByteArray.mk #[]) ∨ (9 < n ∧ k = n / 10 ∧ o = ByteArray.mk #[UInt8.ofNat (48 + n % 10)]))) (fun m _ _ => (intOf m).toNat)
 case atStart => exact ⟨n, _, rfl, rfl, Nat.le_refl _, Below.refl _ _, Or.inl ⟨rfl, rfl⟩⟩
 case round =>
  obtain ⟨k, o, rfl, rfl, hk, hb, hor⟩ := hrel
  have HB := tuck hb
  have HOR := tuck hor
  clear hb hor
  by_cases h9 : k ≤ 9
  ·have h3 : decide ((9 : Int) < (k : Int)) = false := decide_eq_false (by omega)
   have hcv := HT.out (48 + k) (by omega) wr
   rw [show ((48 + k : Nat) : Int) = 48 + (k : Int) by omega] at hcv
   obtain ⟨c, hc⟩ : ∃ c, c = ByteArray.mk #[UInt8.ofNat (48 + k)] := ⟨_, rfl⟩
   rw [← hc] at hcv
   have hsz : ¬ (9223372036854775807 < c.size + o.size) := by
    have h1 : c.size = 1 := by rw [hc]; rfl
    have h2 : o.size ≤ 1 := by rcases HOR.out with ⟨_, rfl⟩ | ⟨_, _, rfl⟩ <;> simp [ByteArray.size]
    omega
   have HEND : Hid (∀ w', Below w.heap.size w w' → post (.returned (.string (c ++ o))) w') := tuck fun w' hb => HP.out _ w' (by
    rw [hc]
    rcases HOR.out with ⟨rfl, rfl⟩ | ⟨h10, rfl, rfl⟩
    ·rw [ba_empty, decS, if_pos h9]
    ·rw [ba_pair, decS, if_neg (by omega)]) hb
   clear hc
   go_wp2_with fail
   exact HEND.out _ (HB.out.alloc (HB.out.size) _)
  ·have h3 : decide ((9 : Int) < (k : Int)) = true := decide_eq_true (by omega)
   have hcv := HT.out (48 + k % 10) (by omega) wr
   rw [show ((48 + k % 10 : Nat) : Int) = 48 + (k : Int) % 10 by omega] at hcv
   have HKN : Hid (k = n ∧ o = ByteArray.mk #[]) := tuck (by
    rcases HOR.out with h | ⟨h10, rfl, rfl⟩
    ·exact h
    ·omega)
   obtain ⟨c, hc⟩ : ∃ c, c = ByteArray.mk #[UInt8.ofNat (48 + k % 10)] := ⟨_, rfl⟩
   rw [← hc] at hcv
   have hsz : ¬ (9223372036854775807 < c.size + o.size) := by
    have h1 : c.size = 1 := by rw [hc]; rfl
    have h2 : o.size ≤ 1 := by rcases HOR.out with ⟨_, rfl⟩ | ⟨_, _, rfl⟩ <;> simp [ByteArray.size]
    omega
   have HC := tuck hc
   clear HOR hc
   go_wp2_with fail
   go_roundw
   case rel =>
    obtain ⟨rfl, rfl⟩ := HKN.out
    exact ⟨k / 10, _, rfl, by go_num, by omega, HB.out.alloc (HB.out.size) _, Or.inr ⟨by omega, rfl, by rw [HC.out]; exact ba_empty _⟩⟩
   case measure => simp [intOf]; omega
end Go.Proofs.YtpddjebdncaceaaGreat
