/-
  NodeX.
-/
import Derived.Test.YteeafpnjpcgfaaaGreatB24
import Derived.Test.YteeafpnjpcgfaaaGreatB30
namespace Go.Proofs.YteeafpnjpcgfaaaGreat
open Go.RowKit
def NodeR (k : Int) (r : List (Tm × Value)) (w : World) (e : Ending) (w' : World) : Prop := Below w.heap.size w w' ∧ ∃ g c, e = .returned (.agg #[.int .i64 k, .int .i64 0, .slice (some ⟨g, 0, none⟩) r.length c]) ∧ w.heap.size < g ∧ ∀ j u, (cellsL r)[j]? = some u → w'.cell? ⟨g, j, none⟩ = some u
set_option maxRecDepth 100000 in
theorem nodeR_any (k : Int) (r : List (Tm × Value)) (w : World) (b o cap : Nat) (hne : r ≠ []) (hl : r.length ≤ 100000) (hcell : ∀ j u, (cellsL r)[j]? = some u → w.cell? ⟨b, o + j, none⟩ = some u) (hin : ∀ u ∈ cellsL r, u.oneCell' = true) :
  Calls Tryz.prog 92 #[.int .i64 k, .slice (some ⟨b, o, none⟩) r.length cap] w (NodeR k r w) := by
 obtain ⟨i0, hi, hz0, hz1, hz2⟩ := info_parts info_term'
 have HC := tuck hcell
 have HIN := tuck hin
 have HI := tuck hi
 have HZ0 := tuck hz0
 have HZ1 := tuck hz1
 have HZ2 := tuck hz2
 clear hcell hin hi hz0 hz1 hz2
 go_enter Tryz.func92, Tryz.ntmps92
 have hlt : b < w.heap.size := by
  cases r with
  | nil => exact absurd rfl hne
  | cons x r => exact World.block_lt_of_cell? w _ (HC.out 0 _ rfl)
 go_wp2_with (at_builtin; refine wpList_append_own _ rfl (.tmp 6) (.tmp 7) 27 rfl (w.heap.size + 1) 29 i0 _ 3 40 Tryz.underlying27 HI.out HZ0.out HZ1.out HZ2.out rfl (by decide) (.slice (some ⟨w.heap.size + 1, 0, none⟩) 0 0) 0 [] rfl ?own ⟨b, o, none⟩ r.length cap (cellsL r) rfl ?len ?cells ?one ?c63 ?cby ?cbase ?next)
 case own =>
  have := World.ownsRow_made (w.alloc (.cells #[.int .i64 0, .int .i64 0, .slice none 0 0] 29)) #[] 0 (base := w.heap.size + 1) (e := 29) (size := 3) (by simp) (by simp [maxLen]) rfl
  simpa using this
 case len => rw [cellsL_length]
 case cells =>
  intro j u hu
  have := HC.out j u hu
  have ea : (Addr.mk b o none).add j = ⟨b, o + j, none⟩ := by unfold Addr.add; split <;> simp_all
  rw [ea]
  exact ((below2 w _ _).cell (p := ⟨b, o + j, none⟩) hlt).trans this
 case one => exact HIN.out
 case c63 => simp [maxLen]; omega
 case cby => omega
 case cbase => simp
 case next =>
  intro v' w' hown hgrow _
  have hbel : Below w.heap.size w w' := (below2 w _ _).grown hgrow (by simp; omega) (fun g hg => by simp [Value.ownBlock] at hg; omega)
  have hz : w.heap.size < w'.heap.size := by have := hgrow.size; simp at this; omega
  have hc0 : ∀ i, w'.cell? ⟨w.heap.size, i, none⟩ = ((w.alloc (.cells #[.int .i64 0, .int .i64 0, .slice none 0 0] 29)).alloc (.cells #[] 29)).cell? ⟨w.heap.size, i, none⟩ := fun i =>
   World.cell?_of_block (hgrow.block w.heap.size (by simp; omega) (fun e => by simp [Value.ownBlock] at e))
  have hf0 : ∀ i, w'.frozen? ⟨w.heap.size, i, none⟩ = ((w.alloc (.cells #[.int .i64 0, .int .i64 0, .slice none 0 0] 29)).alloc (.cells #[] 29)).frozen? ⟨w.heap.size, i, none⟩ := fun i =>
   World.frozen?_of_block (hgrow.block w.heap.size (by simp; omega) (fun e => by simp [Value.ownBlock] at e))
  have hsl : ∃ g c, v' = .slice (some ⟨g, 0, none⟩) r.length c ∧ w.heap.size < g ∧ ∀ j u, (cellsL r)[j]? = some u → w'.cell? ⟨g, 0 + j, none⟩ = some u := by
   rcases hown.2 with ⟨_, h0⟩ | ⟨g, c, cur, rfl, hg, _⟩
   ·exact absurd (List.length_eq_zero_iff.1 h0) hne
   ·refine ⟨g, c, rfl, by omega, fun j u hu => ?_⟩
    rw [Nat.zero_add, hown.cellAt j (by have := (List.getElem?_eq_some_iff.1 hu).1; rw [cellsL_length] at this; exact this)]
    exact hu
  obtain ⟨g, c, rfl, hg, hsl⟩ := hsl
  have HSL := tuck hsl
  have HBEL := tuck hbel
  clear hsl hbel hown hgrow
  go_wp2_with fail
  refine bodyPost_ret (v := .agg #[.int .i64 k, .int .i64 0, .slice (some ⟨g, 0, none⟩) r.length c]) (by simp [results, Tryz.results92, go_sem, hc0]) rfl ?_
  have hb3 := bSet3 HBEL.out (Nat.le_refl w.heap.size) 0 1 2 (.int .i64 k) (.int .i64 0) (.slice (some ⟨g, 0, none⟩) r.length c)
  refine ⟨hb3, g, c, rfl, hg, fun j u hu => ?_⟩
  have hne3 : ∀ i, (⟨w.heap.size, i, none⟩ : Addr) ≠ ⟨g, 0 + j, none⟩ := fun i e => by injection e; omega
  have hq := HSL.out j u hu
  rw [show (⟨g, j, none⟩ : Addr) = ⟨g, 0 + j, none⟩ by rw [Nat.zero_add]]
  rw [World.cell?_setCell_other _ _ _ _ (hne3 _), World.cell?_setCell_other _ _ _ _ (hne3 _), World.cell?_setCell_other _ _ _ _ (hne3 _)]
  exact hq
theorem nodeX_any (k : Int) (r : List (Tm × Value)) (w : World) (R cap : Nat) (T : TypeId) (cs : Array Value) (X : Nat → Prop) (hX : ∀ i, X i → i < w.heap.size) (hne : r ≠ []) (hl : r.length ≤ 100000) (hb : w.heap[R]? = some (.cells cs T (0, 0))) (hc : cs.toList = cellsL r) (hx : ∀ x ∈ r, SlX w X x.1.kids x.2) :
  Calls Tryz.prog 92 #[.int .i64 k, .slice (some ⟨R, 0, none⟩) r.length cap] w fun e w' => Below w.heap.size w w' ∧ ∃ (a : Option Addr) (c : Nat), e = .returned (.agg #[.int .i64 k, .int .i64 0, .slice a r.length c]) ∧ SlX w' X (r.map (·.1)) (.slice a r.length c) := by
 obtain ⟨b1, b2, -⟩ := block_of_cells hb
 refine (nodeR_any k r w R 0 cap hne hl (fun j u hu => ?_) (cellsL_one fun x hx' => (hx x hx').sl)).mono ?_
 ·rw [Nat.zero_add, b2, ← Array.getElem?_toList, hc]; exact hu
 ·rintro e w' ⟨hb', g, c, rfl, hg, hrow⟩
  refine ⟨hb', some ⟨g, 0, none⟩, c, rfl, ?_⟩
  have hr : RowAt (mask w' X) 0 (r.map (·.1)) g 0 := RowAt.of_list (fun j u hu => mask_cell.2 ⟨fun h => by have := hX _ h; dsimp only at this; omega, by rw [Nat.zero_add]; exact hrow j u hu⟩) (fun x hx' => (hx x hx').below hb')
  refine ⟨_, c, g, 0, ?_, ?_, fun _ => ⟨rfl, Nat.zero_le _⟩, hr⟩
  ·rw [List.length_map]
  ·rw [List.length_map]; unfold maxLen; omega
theorem SlX.lay {w : World} {X : Nat → Prop} {l : List Tm} {v : Value} (h : SlX w X l v) (o : Obj) : SlX (w.alloc o) (fun i => X i ∨ i = w.heap.size) l v :=
 h.to fun p u hn hc => by
  have hp := World.block_lt_of_cell? w p hc
  exact ⟨fun hx => by
   rcases hx with hx | hx
   ·exact hn hx
   ·omega, ((below1 w o).cell hp).trans hc⟩
theorem SlX.put {w : World} {X : Nat → Prop} {l : List Tm} {v : Value} (h : SlX w X l v) {g : Nat} (hg : X g) (i j k : Nat) (x y z : Value) : SlX (((w.setCell ⟨g, i, none⟩ x).setCell ⟨g, j, none⟩ y).setCell ⟨g, k, none⟩ z) X l v :=
 ((h.set (q := ⟨g, i, none⟩) hg _).set (q := ⟨g, j, none⟩) hg _).set (q := ⟨g, k, none⟩) hg _
theorem SlX.less {w : World} {X Y : Nat → Prop} {l : List Tm} {v : Value} (h : SlX w Y l v) (hXY : ∀ i, X i → Y i) : SlX w X l v :=
 h.to fun _ _ hn hc => ⟨fun hx => hn (hXY _ hx), hc⟩
end Go.Proofs.YteeafpnjpcgfaaaGreat
