/-
  Grow.
-/
import Derived.Test.YtlbikgnanabjgaaGreatQ05
import Derived.Deep.AppendLies
import Derived.Laws.AppendOwn
import Derived.OwnWalk
import Derived.ProofKit
import Derived.Test.YtlbikgnanabjgaaGreatProg
import Derived.WalkSpells
namespace Go.Proofs.YtlbikgnanabjgaaGreat
open Go.RowKit
theorem info_termG : (Tryz.prog.info? 25).map (fun i => (i.zero, i.size, i.bytes)) = some (some (.agg #[.int .i64 0, .int .i64 0, .slice none 0 0]), 3, 40) := by kernel_rfl
theorem grown_none {w w' : World} (hb : Below w.heap.size w w') : w.grownBy w' none := ⟨hb.os, hb.tape, hb.output, hb.size, fun k hk _ => hb.block k hk⟩
theorem cellsL_append : ∀ a b : List (Tm × Value), cellsL (a ++ b) = cellsL a ++ cellsL b
 | [], b => rfl
 | (t, s) :: a, b => by simp only [List.cons_append, cellsL, cellsL_append a b]
def RowG (base : Nat) (l : List Tm) (v : Value) (F : List Nat) (w : World) : Prop :=
 ∃ rs : List (Tm × Value × List Nat), rs.map (·.1) = l ∧ F = rs.flatMap (·.2.2) ∧ w.ownsRow base 25 3 v l.length (cellsL (rs.map fun x => (x.1, x.2.1))) ∧ (∀ x ∈ rs, SlOwn w x.1.kids x.2.1 x.2.2) ∧ F.Nodup ∧
  (∀ g ∈ F, base ≤ g ∧ g < w.heap.size ∧ v.ownBlock ≠ some g)
theorem RowG.nil (base : Nat) (w : World) : RowG base [] (.slice none 0 0) [] w :=
 ⟨[], rfl, rfl, World.ownsRow_nil _ _ _ _, fun x h => (by cases h), List.nodup_nil, fun g h => (by cases h)⟩
theorem RowG.form {base : Nat} {l : List Tm} {v : Value} {F : List Nat} {w : World} (h : RowG base l v F w) : ∃ a cap, v = .slice a l.length cap := by
 obtain ⟨rs, -, -, h, -⟩ := h
 rcases h.2 with ⟨h1, h2⟩ | ⟨g, cap, _, h1, _⟩
 ·exact ⟨none, 0, by rw [h1, h2]⟩
 ·exact ⟨_, _, h1⟩
theorem RowG.lt {base : Nat} {l : List Tm} {v : Value} {F : List Nat} {w : World} (h : RowG base l v F w) : ∀ g, v.ownBlock = some g → base ≤ g ∧ g < w.heap.size := by
 obtain ⟨rs, -, -, h, -⟩ := h
 exact h.lt
theorem RowG.flt {base : Nat} {l : List Tm} {v : Value} {F : List Nat} {w : World} (h : RowG base l v F w) : ∀ g ∈ F, base ≤ g ∧ g < w.heap.size ∧ v.ownBlock ≠ some g := by
 obtain ⟨rs, -, -, -, -, -, h6⟩ := h
 exact h6
theorem RowG.keep {base : Nat} {l : List Tm} {v : Value} {F : List Nat} {w w' : World} (h : RowG base l v F w) (hz : w.heap.size ≤ w'.heap.size) (hk : ∀ g, (v.ownBlock = some g ∨ g ∈ F) → w'.heap[g]? = w.heap[g]?) : RowG base l v F w' := by
 obtain ⟨rs, h1, h2, h3, h4, h5, h6⟩ := h
 refine ⟨rs, h1, h2, ⟨h3.1, ?_⟩, fun x hx => (h4 x hx).keep fun g hg => SameAt.of_block (hk g (Or.inr ?_)), h5, fun g hg => ⟨(h6 g hg).1, by have := (h6 g hg).2.1; omega, (h6 g hg).2.2⟩⟩
 ·rcases h3.2 with h | ⟨g, cap, cur, e, r1, r2, r3⟩
  ·exact Or.inl h
  ·exact Or.inr ⟨g, cap, cur, e, r1, (hk g (Or.inl (by rw [e]; rfl))).trans r2, r3⟩
 ·rw [h2]
  exact List.mem_flatMap.2 ⟨x, hx, hg⟩
theorem RowG.below {base : Nat} {l : List Tm} {v : Value} {F : List Nat} {w w' : World} (h : RowG base l v F w) (hb : Below w.heap.size w w') : RowG base l v F w' :=
 h.keep hb.size fun g hg => by
  rcases hg with hg | hg
  ·exact hb.block g (h.lt g hg).2
  ·obtain ⟨rs, -, -, -, -, -, h6⟩ := h
   exact hb.block g (h6 g hg).2.1
theorem RowG.setCell {base : Nat} {l : List Tm} {v : Value} {F : List Nat} {w : World} (h : RowG base l v F w) {p : Addr} (hp : p.block < base) (u : Value) : RowG base l v F (w.setCell p u) :=
 h.keep (by simp [World.setCell]) fun g hg => by
  refine Below.heap_setCell w p u g fun e => ?_
  rcases hg with hg | hg
  ·have := (h.lt g hg).1; omega
  ·obtain ⟨rs, -, -, -, -, -, h6⟩ := h
   have := (h6 g hg).1; omega
theorem RowG.push {base : Nat} {l : List Tm} {v v' : Value} {F F2 : List Nat} {W w1 : World} {t : Tm} {s : Value} (h : RowG base l v F W) (hs : SlOwn W t.kids s F2) (hnd : F2.Nodup) (hF2 : ∀ g ∈ F2, base ≤ g ∧ g < W.heap.size ∧ g ∉ F ∧ v.ownBlock ≠ some g)
  (hown : ∀ xs, W.ownsRow base 25 3 v l.length xs → w1.ownsRow base 25 3 v' (l.length + 1) (xs ++ [.int .i64 t.kind, .int .i64 t.num, s])) (hgrow : W.grownBy w1 v.ownBlock) (hat : v'.ownBlock = v.ownBlock ∨ v'.ownBlock = some W.heap.size) :
  RowG base (l ++ [t]) v' (F ++ F2) w1 := by
 obtain ⟨rs, h1, h2, h3, h4, h5, h6⟩ := h
 have hsame : ∀ g, g < W.heap.size → v.ownBlock ≠ some g → SameAt W w1 g := fun g hg hn => SameAt.of_block (hgrow.block g hg (fun e => hn e.symm))
 have hFlt : ∀ x ∈ rs, ∀ g ∈ x.2.2, g ∈ F := fun x hx g hg => by rw [h2]; exact List.mem_flatMap.2 ⟨x, hx, hg⟩
 refine ⟨rs ++ [(t, s, F2)], by simp [h1], by simp [h2], ?_, fun x hx => ?_, ?_, fun g hg => ?_⟩
 ·have := hown _ h3
  rw [List.map_append, cellsL_append, List.length_append]
  simpa [cellsL] using this
 ·rcases List.mem_append.1 hx with hx | hx
  ·exact (h4 x hx).keep fun g hg => hsame g (h6 g (hFlt x hx g hg)).2.1 (h6 g (hFlt x hx g hg)).2.2
  ·simp only [List.mem_singleton] at hx
   subst hx
   exact hs.keep fun g hg => hsame g (hF2 g hg).2.1 (hF2 g hg).2.2.2
 ·refine List.nodup_append.2 ⟨h5, hnd, fun a ha b hb e => ?_⟩
  exact (hF2 b hb).2.2.1 (e ▸ ha)
 ·have hz := hgrow.size
  have key : base ≤ g ∧ g < W.heap.size ∧ v.ownBlock ≠ some g := by
   rcases List.mem_append.1 hg with hg | hg
   ·exact h6 g hg
   ·exact ⟨(hF2 g hg).1, (hF2 g hg).2.1, (hF2 g hg).2.2.2⟩
  refine ⟨key.1, by omega, fun e => ?_⟩
  rcases hat with hat | hat
  ·exact key.2.2 (hat ▸ e)
  ·rw [hat] at e
   simp at e
   omega
theorem RowG.done {base : Nat} {l : List Tm} {v : Value} {F : List Nat} {w : World} (h : RowG base l v F w) (hl : l.length ≤ maxLen) : ∃ G, SlOwn w l v G ∧ G.Nodup ∧ ∀ g ∈ G, base ≤ g ∧ g < w.heap.size := by
 obtain ⟨rs, h1, h2, h3, h4, h5, h6⟩ := h
 have hrow := h3
 rcases h3.2 with ⟨e1, e2⟩ | ⟨g, cap, cur, rfl, r1, r2, r3⟩
 ·have : l = [] := List.length_eq_zero_iff.1 e2
  subst this
  subst e1
  exact ⟨[], SlOwn.nil _ _ _, List.nodup_nil, fun g h => by cases h⟩
 ·obtain ⟨b1, b2, b3⟩ := block_of_cells r2
  refine ⟨g :: F, ⟨some ⟨g, 0, none⟩, cap, g, F, rfl, hl, Or.inr ⟨rfl, rfl, b3⟩, fun _ => ?_⟩, List.nodup_cons.2 ⟨fun hg => (h6 g hg).2.2 rfl, h5⟩, fun x hx => ?_⟩
  ·rw [← h1, h2]
   refine RowOwn.of_list (fun j u hu => ?_) h4
   have := hrow.cells (g := g) rfl j u hu
   rw [Nat.zero_add]
   have hadd : (⟨g, 0, none⟩ : Addr).add j = ⟨g, j, none⟩ := by unfold Addr.add; split <;> simp_all
   rwa [hadd] at this
  ·rcases List.mem_cons.1 hx with rfl | hx
   ·exact ⟨r1, b1⟩
   ·exact ⟨(h6 x hx).1, (h6 x hx).2.1⟩
theorem RowG.form' {base q : Nat} {l : List Tm} {v : Value} {F : List Nat} {w : World} (h : RowG base l v F w) (hl : l.length = q) : ∃ a cap, v = .slice a q cap := by
 obtain ⟨a, cap, e⟩ := h.form
 exact ⟨a, cap, by rw [e, hl]⟩
theorem RowG.grow {base q : Nat} {l : List Tm} {v : Value} {F : List Nat} {W : World} (h : RowG base l v F W) (hl : l.length = q) : ∃ xs, W.ownsRow base 25 3 v q xs ∧
  ∀ (v' s : Value) (F2 : List Nat) (w1 : World) (t : Tm), SlOwn W t.kids s F2 → F2.Nodup → (∀ g ∈ F2, base ≤ g ∧ g < W.heap.size ∧ g ∉ F ∧ v.ownBlock ≠ some g) → w1.ownsRow base 25 3 v' (q + 1) (xs ++ [.int .i64 t.kind, .int .i64 t.num, s]) →
   W.grownBy w1 v.ownBlock → (v'.ownBlock = v.ownBlock ∨ v'.ownBlock = some W.heap.size) → RowG base (l ++ [t]) v' (F ++ F2) w1 := by
 subst hl
 have h0 := h
 obtain ⟨rs, h1, h2, h3, h4, h5, h6⟩ := h
 refine ⟨_, h3, fun v' s F2 w1 t a1 a2 a3 a4 a5 a6 => h0.push a1 a2 a3 (fun xs hx => ?_) a5 a6⟩
 have e : xs = cellsL (rs.map fun x => (x.1, x.2.1)) := by
  rcases hx.2 with ⟨e1, e2⟩ | ⟨g, cap, cur, e1, _, r1, _, _, _, r2⟩
  ·have n1 := hx.1
   have n2 := h3.1
   rw [e2] at n1 n2
   exact (List.length_eq_zero_iff.1 (by simpa using n1)).trans (List.length_eq_zero_iff.1 (by simpa using n2)).symm
  ·rcases h3.2 with ⟨f1, f2⟩ | ⟨g', cap', cur', f1, _, q1, _, _, _, q2⟩
   ·rw [e1] at f1
    cases f1
   ·rw [e1] at f1
    injection f1 with f1
    injection f1 with f1
    injection f1 with f1
    subst f1
    rw [r1] at q1
    injection q1 with q1
    injection q1 with q1
    subst q1
    rw [← r2, ← q2]
 rw [e]
 exact a4
end Go.Proofs.YtlbikgnanabjgaaGreat
