/-
  The model's l1Leaf, l1Node.
-/
import Derived.Test.YteeafpnjpcgfaaaGreatNum
import Derived.OwnWalk
namespace Go.Proofs.YteeafpnjpcgfaaaGreat
open Go.RowKit

theorem bGrown {w w' : World} {v : Value} (h : w.grownBy w' v.ownBlock) {B : Nat} (hB : B ≤ w.heap.size) (hv : ∀ g, v.ownBlock = some g → B ≤ g) {a : World} (ha : Below B a w) : Below B a w' := ha.grown h hB hv

theorem leaf_any (k n : Int) (w : World) : Calls Tryz.prog 91 #[.int .i64 k, .int .i64 n] w fun e w' => e = .returned (.agg #[.int .i64 k, .int .i64 n, .slice none 0 0]) ∧ Below w.heap.size w w' := by
  go_enter Tryz.func91, Tryz.ntmps91
  go_wp2
  refine bodyPost_ret (v := .agg #[.int .i64 k, .int .i64 n, .slice none 0 0]) (by simp [results, Tryz.results91, go_sem]) rfl ⟨rfl, below1 _ _⟩

theorem info_term' : (Tryz.prog.info? 29).map (fun i => (i.zero, i.size, i.bytes)) = some (some (.agg #[.int .i64 0, .int .i64 0, .slice none 0 0]), 3, 40) := by kernel_rfl

theorem cellsL_one {r : List (Tm × Value)} {w : World} {B : Nat} (h : ∀ x ∈ r, SlIn w B x.1.kids x.2) : ∀ u ∈ cellsL r, u.oneCell' = true := by
  induction r with
  | nil => intro u hu; simp [cellsL] at hu
  | cons x r ih =>
    obtain ⟨t, s⟩ := x
    intro u hu
    simp only [cellsL, List.mem_cons] at hu
    rcases hu with rfl | rfl | rfl | hu
    · rfl
    · rfl
    · obtain ⟨a, cap, e⟩ := (h _ (List.mem_cons_self ..)).form
      rw [show (u : Value) = .slice a t.kids.length cap from e]; rfl
    · exact ih (fun x hx => h x (List.mem_cons_of_mem _ hx)) u hu

/-- What l1Node leaves: a node over a copy of the row. -/
def NodePost (B : Nat) (k : Int) (l : List Tm) (w : World) (e : Ending) (w' : World) : Prop := ∃ s, e = .returned (.agg #[.int .i64 k, .int .i64 0, s]) ∧ SlIn w' B l s ∧ Below w.heap.size w w'

set_option maxRecDepth 100000 in
theorem node_any (B : Nat) (k : Int) (l : List Tm) (w : World) (v : Value) (hne : l ≠ []) (_hB : B ≤ w.heap.size) (hl : l.length ≤ 100000) (h : SlIn w B l v) : Calls Tryz.prog 92 #[.int .i64 k, v] w (NodePost B k l w) := by
  obtain ⟨a, cap, b, o, rfl, hl2, hp, hrow⟩ := h
  obtain ⟨r, hr, hcell, hin⟩ := hrow.list
  have hrl : r.length = l.length := by rw [← hr, List.length_map]
  obtain ⟨i0, hi, hz0, hz1, hz2⟩ := info_parts info_term'
  obtain ⟨rfl, _⟩ := hp hne
  have HC := tuck hcell
  have HIN := tuck hin
  have HR := tuck hr
  have HRL := tuck hrl
  have HI := tuck hi
  have HZ0 := tuck hz0
  have HZ1 := tuck hz1
  have HZ2 := tuck hz2
  clear hcell hin hr hrl hrow hp hi hz0 hz1 hz2
  go_enter Tryz.func92, Tryz.ntmps92
  have hlt : b < w.heap.size := by
    cases r with
    | nil => exact absurd (by have := HRL.out; simpa using this.symm) hne
    | cons x r => exact World.block_lt_of_cell? w _ (HC.out 0 _ rfl)
  go_wp2_with (at_builtin; refine wpList_append_own _ rfl (.tmp 6) (.tmp 7) 27 rfl (w.heap.size + 1) 29 i0 _ 3 40 Tryz.underlying27 HI.out HZ0.out HZ1.out HZ2.out rfl (by decide) (.slice (some ⟨w.heap.size + 1, 0, none⟩) 0 0) 0 [] rfl ?own ⟨b, o, none⟩ l.length cap (cellsL r) rfl ?len ?cells ?one ?c63 ?cby ?cbase ?next)
  case own =>
    have := World.ownsRow_made (w.alloc (.cells #[.int .i64 0, .int .i64 0, .slice none 0 0] 29)) #[] 0 (base := w.heap.size + 1) (e := 29) (size := 3) (by simp) (by simp [maxLen]) rfl
    simpa using this
  case len => rw [cellsL_length, HRL.out]
  case cells =>
    intro j u hu
    have := HC.out j u hu
    have ea : (Addr.mk b o none).add j = ⟨b, o + j, none⟩ := by unfold Addr.add; split <;> simp_all
    rw [ea]
    exact ((below2 w _ _).cell (p := ⟨b, o + j, none⟩) hlt).trans this
  case one => exact cellsL_one HIN.out
  case c63 => simp [maxLen]; omega
  case cby => omega
  case cbase => simp
  case next =>
    intro v' w' hown hgrow _
    have hbel : Below w.heap.size w w' := (below2 w _ _).grown hgrow (by simp; omega) (fun g hg => by simp [Value.ownBlock] at hg; omega)
    have hz : w.heap.size < w'.heap.size := by have := hgrow.size; simp at this; omega
    have hc0 : ∀ i, w'.cell? ⟨w.heap.size, i, none⟩ = ((w.alloc (.cells #[.int .i64 0, .int .i64 0, .slice none 0 0] 29)).alloc (.cells #[] 29)).cell? ⟨w.heap.size, i, none⟩ := fun i =>
      World.cell?_of_block (hgrow.block w.heap.size (by simp; omega) (fun e => by simp [Value.ownBlock] at e))
    have hf0 : ∀ i, w'.frozen? ⟨w.heap.size, i, none⟩ = ((w.alloc (.cells #[.int .i64 0, .int .i64 0, .slice none 0 0] 29)).alloc (.cells #[] 29)).frozen? ⟨w.heap.size, i, none⟩ := fun i =>
      World.frozen?_of_block (hgrow.block w.heap.size (by simp; omega) (fun e => by simp [Value.ownBlock] at e))
    have hsl : ∃ g c, v' = .slice (some ⟨g, 0, none⟩) l.length c ∧ w.heap.size < g ∧ ∀ j u, (cellsL r)[j]? = some u → w'.cell? ⟨g, 0 + j, none⟩ = some u := by
      rcases hown.2 with ⟨_, h0⟩ | ⟨g, c, cur, rfl, hg, _⟩
      · exact absurd (List.length_eq_zero_iff.1 h0) hne
      · refine ⟨g, c, rfl, by omega, fun j u hu => ?_⟩
        rw [Nat.zero_add, hown.cellAt j (by have := (List.getElem?_eq_some_iff.1 hu).1; rw [cellsL_length, HRL.out] at this; exact this)]
        exact hu
    obtain ⟨g, c, rfl, hg, hsl⟩ := hsl
    have HSL := tuck hsl
    have HBEL := tuck hbel
    clear hsl hbel hown hgrow
    go_wp2_with fail
    refine bodyPost_ret (v := .agg #[.int .i64 k, .int .i64 0, .slice (some ⟨g, 0, none⟩) l.length c]) (by simp [results, Tryz.results92, go_sem, hc0]) rfl ?_
    have hb3 := bSet3 HBEL.out (Nat.le_refl w.heap.size) 0 1 2 (.int .i64 k) (.int .i64 0) (.slice (some ⟨g, 0, none⟩) l.length c)
    refine ⟨_, rfl, ⟨some ⟨g, 0, none⟩, c, g, 0, rfl, hl2, fun _ => ⟨rfl, by omega⟩, ?_⟩, hb3⟩
    have hrow : RowAt _ B (r.map (·.1)) g 0 := RowAt.of_list (fun j u hu => ?_) (fun x hx => (HIN.out x hx).below hb3)
    · rw [HR.out] at hrow
      exact hrow
    have hne3 : ∀ i, (⟨w.heap.size, i, none⟩ : Addr) ≠ ⟨g, 0 + j, none⟩ := fun i e => by injection e; omega
    rw [World.cell?_setCell_other _ _ _ _ (hne3 _), World.cell?_setCell_other _ _ _ _ (hne3 _), World.cell?_setCell_other _ _ _ _ (hne3 _)]
    exact HSL.out j u hu

end Go.Proofs.YteeafpnjpcgfaaaGreat
