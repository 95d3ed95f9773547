/-
  RowT.
-/
import Derived.Test.YteeafpnjpcgfaaaGreatB19
import Derived.Test.YteeafpnjpcgfaaaGreatB24
namespace Go.Proofs.YteeafpnjpcgfaaaGreat
open Go.RowKit
def OffT (Z base : Nat) (v : Value) : Nat → Prop := fun i => (Z ≤ i ∧ i < base) ∨ v.ownBlock = some i
def RowT (Z base : Nat) (l : List Tm) (v : Value) (w : World) : Prop :=
 ∃ rs : List (Tm × Value), rs.map (·.1) = l ∧ w.ownsRow base 29 3 v l.length (cellsL rs) ∧ ∀ x ∈ rs, SlX w (OffT Z base v) x.1.kids x.2
theorem RowT.nil (Z base : Nat) (w : World) : RowT Z base [] (.slice none 0 0) w :=
 ⟨[], rfl, World.ownsRow_nil _ _ _ _, fun x h => (by cases h)⟩
theorem RowT.form {Z base : Nat} {l : List Tm} {v : Value} {w : World} (h : RowT Z base l v w) : ∃ a cap, v = .slice a l.length cap := by
 obtain ⟨rs, -, h, -⟩ := h
 rcases h.2 with ⟨h1, h2⟩ | ⟨g, cap, _, h1, _⟩
 ·exact ⟨none, 0, by rw [h1, h2]⟩
 ·exact ⟨_, _, h1⟩
theorem RowT.form' {Z base q : Nat} {l : List Tm} {v : Value} {w : World} (h : RowT Z base l v w) (hl : l.length = q) : ∃ a cap, v = .slice a q cap := by
 obtain ⟨a, cap, e⟩ := h.form
 exact ⟨a, cap, by rw [e, hl]⟩
theorem RowT.lt {Z base : Nat} {l : List Tm} {v : Value} {w : World} (h : RowT Z base l v w) : ∀ g, v.ownBlock = some g → base ≤ g ∧ g < w.heap.size := by
 obtain ⟨rs, -, h, -⟩ := h
 exact h.lt
theorem RowT.below {Z base : Nat} {l : List Tm} {v : Value} {w w' : World} (h : RowT Z base l v w) (hb : Below w.heap.size w w') : RowT Z base l v w' := by
 obtain ⟨rs, h1, h2, h3⟩ := h
 exact ⟨rs, h1, h2.kept (grown_none hb) (by cases v.ownBlock <;> simp), fun x hx => (h3 x hx).below hb⟩
theorem RowT.push {Z base : Nat} {l : List Tm} {v v' : Value} {W w1 : World} {t : Tm} {s : Value} (h : RowT Z base l v W) (hs : SlX W (OffT Z base v) t.kids s)
  (hown : ∀ xs, W.ownsRow base 29 3 v l.length xs → w1.ownsRow base 29 3 v' (l.length + 1) (xs ++ [.int .i64 t.kind, .int .i64 t.num, s])) (hgrow : W.grownBy w1 v.ownBlock) (hat : v'.ownBlock = v.ownBlock ∨ v'.ownBlock = some W.heap.size) :
  RowT Z base (l ++ [t]) v' w1 := by
 obtain ⟨rs, h1, h2, h3⟩ := h
 have key : ∀ (x : List Tm) (u : Value), SlX W (OffT Z base v) x u → SlX w1 (OffT Z base v') x u := fun x u hx => hx.to fun p y hn hc => by
  have hp := World.block_lt_of_cell? W p hc
  refine ⟨?_, (World.cell?_of_block (hgrow.block p.block hp fun e => hn (Or.inr e.symm))).trans hc⟩
  rintro (h | h)
  ·exact hn (Or.inl h)
  ·rcases hat with hat | hat
   ·exact hn (Or.inr (hat ▸ h))
   ·rw [hat] at h
    simp at h
    omega
 refine ⟨rs ++ [(t, s)], by simp [h1], ?_, fun x hx => ?_⟩
 ·have := hown _ h2
  rw [cellsL_append, List.length_append]
  simpa [cellsL] using this
 ·rcases List.mem_append.1 hx with hx | hx
  ·exact key _ _ (h3 x hx)
  ·simp only [List.mem_singleton] at hx
   subst hx
   exact key _ _ hs
theorem RowT.grow {Z base q : Nat} {l : List Tm} {v : Value} {W : World} (h : RowT Z base l v W) (hl : l.length = q) : ∃ xs, W.ownsRow base 29 3 v q xs ∧
  ∀ (v' s : Value) (w1 : World) (t : Tm), SlX W (OffT Z base v) t.kids s → w1.ownsRow base 29 3 v' (q + 1) (xs ++ [.int .i64 t.kind, .int .i64 t.num, s]) →
   W.grownBy w1 v.ownBlock → (v'.ownBlock = v.ownBlock ∨ v'.ownBlock = some W.heap.size) → RowT Z base (l ++ [t]) v' w1 := by
 subst hl
 have h0 := h
 obtain ⟨rs, h1, h2, h3⟩ := h
 refine ⟨_, h2, fun v' s w1 t a1 a4 a5 a6 => h0.push a1 (fun xs hx => ?_) a5 a6⟩
 have e : xs = cellsL rs := by
  rcases hx.2 with ⟨e1, e2⟩ | ⟨g, cap, cur, e1, _, r1, _, _, _, r2⟩
  ·have n1 := hx.1
   have n2 := h2.1
   rw [e2] at n1 n2
   exact (List.length_eq_zero_iff.1 (by simpa using n1)).trans (List.length_eq_zero_iff.1 (by simpa using n2)).symm
  ·rcases h2.2 with ⟨f1, f2⟩ | ⟨g', cap', cur', f1, _, q1, _, _, _, q2⟩
   ·rw [e1] at f1
    cases f1
   ·rw [e1] at f1
    simp only [Value.slice.injEq, Option.some.injEq, Addr.mk.injEq, and_true, true_and] at f1
    obtain ⟨rfl, rfl⟩ := f1
    rw [r1] at q1
    cases q1
    rw [← r2, ← q2]
 rw [e]
 exact a4
theorem RowT.done {Z base : Nat} {l : List Tm} {v : Value} {w : World} (h : RowT Z base l v w) (hl : l.length ≤ maxLen) : SlX w (fun i => Z ≤ i ∧ i < base) l v := by
 obtain ⟨rs, h1, h2, h3⟩ := h
 have hrow := h2
 rcases h2.2 with ⟨e1, e2⟩ | ⟨g, cap, cur, rfl, r1, r2, r3⟩
 ·have : l = [] := List.length_eq_zero_iff.1 e2
  subst this
  subst e1
  exact SlX.nil _ _ _ _
 ·obtain ⟨b1, b2, b3⟩ := block_of_cells r2
  have hr : RowAt (mask w fun i => Z ≤ i ∧ i < base) 0 (rs.map (·.1)) g 0 := by
   refine RowAt.of_list (fun j u hu => ?_) fun x hx => (h3 x hx).to fun p y hn hc => ⟨fun hz => hn (Or.inl hz), hc⟩
   have := hrow.cells (g := g) rfl j u hu
   have hadd : (⟨g, 0, none⟩ : Addr).add j = ⟨g, j, none⟩ := by unfold Addr.add; split <;> simp_all
   rw [hadd] at this
   rw [Nat.zero_add]
   exact mask_cell.2 ⟨fun hz => by dsimp only at hz; omega, this⟩
  rw [h1] at hr
  exact ⟨_, _, g, 0, rfl, hl, fun _ => ⟨rfl, Nat.zero_le _⟩, hr⟩
theorem RowT.done' {Z base j : Nat} {l : List Tm} {a : Option Addr} {c : Nat} {w : World} (h : RowT Z base l (.slice a j c) w) (hl : l.length = j) (hj : j ≤ maxLen) : SlX w (fun i => Z ≤ i ∧ i < base) l (.slice a j c) := h.done (by rw [hl]; exact hj)
end Go.Proofs.YteeafpnjpcgfaaaGreat
