/-
  RowT.
-/
import Derived.Test.YtcnpenmhngplfaaB07
import Derived.Test.YtcnpenmhngplfaaB30
namespace Go.Proofs.Ytcnpenmhngplfaa
open Go.RowKit
def OffT (Z base : Nat) (v : Value) : Nat → Prop := fun i => (Z ≤ i ∧ i < base) ∨ v.ownBlock = some i
def RowT (Z base : Nat) (l : List Tm) (v : Value) (w : World) : Prop :=
 ∃ rs : List (Tm × Value), rs.map (·.1) = l ∧ w.ownsRow base 25 3 v l.length (cellsL rs) ∧ ∀ x ∈ rs, SlX w (OffT Z base v) x.1.kids x.2
theorem RowT.form {Z base : Nat} {l : List Tm} {v : Value} {w : World} (h : RowT Z base l v w) : ∃ a cap, v = .slice a l.length cap := by
 obtain ⟨rs, -, h, -⟩ := h
 rcases h.2 with ⟨h1, h2⟩ | ⟨g, cap, _, h1, _⟩
 ·exact ⟨none, 0, by rw [h1, h2]⟩
 ·exact ⟨_, _, h1⟩
theorem RowT.form' {Z base q : Nat} {l : List Tm} {v : Value} {w : World} (h : RowT Z base l v w) (hl : l.length = q) : ∃ a cap, v = .slice a q cap := by
 obtain ⟨a, cap, e⟩ := h.form
 exact ⟨a, cap, by rw [e, hl]⟩
theorem RowT.lt {Z base : Nat} {l : List Tm} {v : Value} {w : World} (h : RowT Z base l v w) : ∀ g, v.ownBlock = some g → base ≤ g ∧ g < w.heap.size := by
 obtain ⟨rs, -, h, -⟩ := h
 exact h.lt
theorem RowT.below {Z base : Nat} {l : List Tm} {v : Value} {w w' : World} (h : RowT Z base l v w) (hb : Below w.heap.size w w') : RowT Z base l v w' := by
 obtain ⟨rs, h1, h2, h3⟩ := h
 exact ⟨rs, h1, h2.kept (grown_none hb) (by cases v.ownBlock <;> simp), fun x hx => (h3 x hx).below hb⟩
theorem RowT.done {Z base : Nat} {l : List Tm} {v : Value} {w : World} (h : RowT Z base l v w) (hl : l.length ≤ maxLen) : SlX w (fun i => Z ≤ i ∧ i < base) l v := by
 obtain ⟨rs, h1, h2, h3⟩ := h
 have hrow := h2
 rcases h2.2 with ⟨e1, e2⟩ | ⟨g, cap, cur, rfl, r1, r2, r3⟩
 ·have : l = [] := List.length_eq_zero_iff.1 e2
  subst this
  subst e1
  exact SlX.nil _ _ _ _
 ·obtain ⟨b1, b2, b3⟩ := block_of_cells r2
  have hr : RowAt (mask w fun i => Z ≤ i ∧ i < base) 0 (rs.map (·.1)) g 0 := by
   refine RowAt.of_list (fun j u hu => ?_) fun x hx => (h3 x hx).to fun p y hn hc => ⟨fun hz => hn (Or.inl hz), hc⟩
   have := hrow.cells (g := g) rfl j u hu
   have hadd : (⟨g, 0, none⟩ : Addr).add j = ⟨g, j, none⟩ := by unfold Addr.add; split <;> simp_all
   rw [hadd] at this
   rw [Nat.zero_add]
   exact mask_cell.2 ⟨fun hz => by dsimp only at hz; omega, this⟩
  rw [h1] at hr
  exact ⟨_, _, g, 0, rfl, hl, fun _ => ⟨rfl, Nat.zero_le _⟩, hr⟩
theorem RowT.done' {Z base j : Nat} {l : List Tm} {a : Option Addr} {c : Nat} {w : World} (h : RowT Z base l (.slice a j c) w) (hl : l.length = j) (hj : j ≤ maxLen) : SlX w (fun i => Z ≤ i ∧ i < base) l (.slice a j c) := h.done (by rw [hl]; exact hj)
end Go.Proofs.Ytcnpenmhngplfaa
