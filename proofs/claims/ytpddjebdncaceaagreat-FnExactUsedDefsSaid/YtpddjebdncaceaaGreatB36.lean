/-
  DuD.
-/
import Derived.Test.YtpddjebdncaceaaGreatB35
namespace Go.Proofs.YtpddjebdncaceaaGreat
open Go.RowKit
set_option linter.unusedVariables false
set_option linter.unusedSimpArgs false
def scL : List ((Tm × Nat) × Value) → List Value
 | [] => []
 | x :: r => .int .i64 x.1.1.kind :: .int .i64 x.1.1.num :: x.2 :: .int .i64 (x.1.2 : Nat) :: scL r
theorem scL_append : ∀ a b : List ((Tm × Nat) × Value), scL (a ++ b) = scL a ++ scL b
 | [], _ => rfl
 | _ :: r, b => by simp only [List.cons_append, scL, scL_append r b]
theorem scL_get : ∀ (l : List ((Tm × Nat) × Value)) (i : Nat) (h : i < l.length), (scL l)[i * 4]? = some (.int .i64 l[i].1.1.kind) ∧ (scL l)[i * 4 + 1]? = some (.int .i64 l[i].1.1.num) ∧ (scL l)[i * 4 + 2]? = some l[i].2 ∧ (scL l)[i * 4 + 3]? = some (.int .i64 (l[i].1.2 : Nat))
 | [], i, h => absurd h (Nat.not_lt_zero _)
 | x :: r, 0, h => ⟨rfl, rfl, rfl, rfl⟩
 | x :: r, i + 1, h => by
  have ih := scL_get r i (by simpa using h)
  have e : (i + 1) * 4 = i * 4 + 1 + 1 + 1 + 1 := by omega
  have e1 : (i + 1) * 4 + 1 = (i * 4 + 1) + 1 + 1 + 1 + 1 := by omega
  have e2 : (i + 1) * 4 + 2 = (i * 4 + 2) + 1 + 1 + 1 + 1 := by omega
  have e3 : (i + 1) * 4 + 3 = (i * 4 + 3) + 1 + 1 + 1 + 1 := by omega
  rw [e1, e2, e3, e]
  simp only [scL, List.getElem?_cons_succ, List.getElem_cons_succ]
  exact ih
def UsR (u : World) (base : Nat) (l : List ((Tm × Nat) × Value)) (v : Value) (w : World) : Prop := w.ownsRow base 100 4 v l.length (scL l) ∧ ∀ x ∈ l, SlIn u 0 x.1.1.kids x.2 ∧ x.1.2 ≤ 8
theorem UsR.scIn {u w : World} {base : Nat} {l : List ((Tm × Nat) × Value)} {v : Value} (h : UsR u base l v w) (hb : Below u.heap.size u w) : ScIn w (l.map Prod.fst) v := by
 obtain ⟨hrow, hall⟩ := h
 rcases hrow.2 with ⟨e1, e2⟩ | ⟨g, cap, cur, rfl, r1, r2, r3, r4, r5, r6⟩
 ·refine ⟨none, 0, 0, 0, by rw [e1, List.length_map, e2], by rw [List.length_map, e2]; exact Nat.zero_le _, fun h => by rw [List.length_map] at h; omega, fun i hi => by rw [List.length_map] at hi; omega⟩
 ·obtain ⟨b1, b2, b3⟩ := block_of_cells r2
  refine ⟨_, cap, g, 0, by rw [List.length_map], by rw [List.length_map]; omega, fun _ => ⟨rfl, b1⟩, fun i hi => ?_⟩
  have hi' : i < l.length := by simpa using hi
  obtain ⟨k0, k1, k2, k3⟩ := scL_get l i hi'
  have hadd : ∀ j : Nat, (⟨g, 0, none⟩ : Addr).add j = ⟨g, j, none⟩ := fun j => by unfold Addr.add; split <;> simp_all
  have hc : ∀ (j : Nat) (x : Value), (scL l)[j]? = some x → w.cell? ⟨g, j, none⟩ = some x := fun j x hx => by
   have := hrow.cells (g := g) rfl j x hx
   rwa [hadd] at this
  have hm := hall l[i] (List.getElem_mem hi')
  simp only [List.getElem_map, Nat.zero_add]
  exact ⟨l[i].2, hc _ _ k0, hc _ _ k1, hc _ _ k2, hc _ _ k3, hm.1.below hb, hm.2⟩
theorem UsR.kept {u w w' : World} {base : Nat} {l : List ((Tm × Nat) × Value)} {v : Value} {row : Option Nat} (h : UsR u base l v w) (hg : w.grownBy w' row) (hne : v.ownBlock = none ∨ v.ownBlock ≠ row) : UsR u base l v w' := ⟨h.1.kept hg hne, h.2⟩
theorem UsR.below {u w w' : World} {base : Nat} {l : List ((Tm × Nat) × Value)} {v : Value} (h : UsR u base l v w) (hb : Below w.heap.size w w') : UsR u base l v w' := h.kept (grown_none hb) (by cases v.ownBlock <;> simp)
theorem UsR.push {u w1 : World} {base : Nat} {l : List ((Tm × Nat) × Value)} {v' : Value} {t : Tm} {s : Value} {d : Nat} (hl : ∀ x ∈ l, SlIn u 0 x.1.1.kids x.2 ∧ x.1.2 ≤ 8) (h : w1.ownsRow base 100 4 v' (l.length + 1) (scL l ++ [.int .i64 t.kind, .int .i64 t.num, s, .int .i64 (d : Nat)])) (hs : SlIn u 0 t.kids s) (hd : d ≤ 8) : UsR u base (l ++ [((t, d), s)]) v' w1 := by
 refine ⟨?_, fun x hx => ?_⟩
 ·rw [scL_append, List.length_append]; exact h
 ·rcases List.mem_append.1 hx with hx | hx
  ·exact hl x hx
  ·simp only [List.mem_singleton] at hx
   subst hx
   exact ⟨hs, hd⟩
theorem UsR.form {u w : World} {base : Nat} {l : List ((Tm × Nat) × Value)} {v : Value} (h : UsR u base l v w) : ∃ a cap, v = .slice a l.length cap := by
 rcases h.1.2 with ⟨h1, h2⟩ | ⟨g, cap, _, h1, _⟩
 ·exact ⟨none, 0, by rw [h1, h2]⟩
 ·exact ⟨_, _, h1⟩
theorem UsR.new (w : World) (base : Nat) (t : Tm) (d : Nat) (s : Value) (hb : base ≤ w.heap.size) (u : World) (hs : SlIn u 0 t.kids s) (hd : d ≤ 8) : UsR u base [((t, d), s)] (.slice (some ⟨w.heap.size, 0, none⟩) 1 1) (w.alloc (.cells #[.int .i64 t.kind, .int .i64 t.num, s, .int .i64 (d : Nat)] 100)) :=
 ⟨⟨rfl, .inr ⟨w.heap.size, 1, _, rfl, hb, heap_new _ _, Nat.le_refl _, by unfold maxLen; omega, rfl, rfl⟩⟩, fun x hx => by simp only [List.mem_singleton] at hx; subst hx; exact ⟨hs, hd⟩⟩
def envLen (v : Value) (w : World) : Nat := match v with
 | .pointer (some a) => match w.cell? ⟨a.block, 7, none⟩ with
  | some (.int _ n) => n.toNat
  | _ => 0
 | _ => 0
theorem EnvC.len : ∀ {l : List (Tm × Tm)} {v : Value} {w : World}, EnvC l v w → envLen v w = l.length
 | [], _, _, h => by rw [show _ = Value.pointer none from h]; rfl
 | _ :: r, _, w, ⟨g, _, _, _, hv, _, _, _, _, _, _, _, _, k7, _, _, _⟩ => by
  subst hv
  simp only [envLen, k7, List.length_cons]
  omega
end Go.Proofs.YtpddjebdncaceaaGreat
