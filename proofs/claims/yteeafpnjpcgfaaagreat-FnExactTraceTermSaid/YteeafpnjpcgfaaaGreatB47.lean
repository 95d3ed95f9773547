/-
  NormI, NormJ.
-/
import Derived.Test.YteeafpnjpcgfaaaGreatB43
namespace Go.Proofs.YteeafpnjpcgfaaaGreat
open Go.RowKit
def redCells (rl mo : Bool) (fuel steps : Nat) (k n : Int) (s : Value) (code : Int) (found : Bool) (xk xn : Int) (xs : Value) : Array Value :=
 #[.bool rl, .bool mo, .int .i64 fuel, .int .i64 steps, .int .i64 k, .int .i64 n, s, .int .i64 code, .bool found, .int .i64 xk, .int .i64 xn, xs, .slice none 0 0]
theorem StkAt.setOther {g o j : Nat} {T : TypeId} {cs : Array Value} {ps : List (Tm × Value × Nat)} {M : Nat → Prop} {w : World} (h : StkAt g o T cs ps M w) (hj : j ≠ o) (u : Value) : StkAt g o T (cs.setIfInBounds j u) ps M (w.setCell ⟨g, j, none⟩ u) := by
 obtain ⟨h1, v, h2, ho, h3, rfl⟩ := h
 refine ⟨h1, v, ?_, by simpa using ho, ownsRow_setCell_below h3 (a := ⟨g, j, none⟩) (Nat.lt_succ_self g) _, rfl⟩
 have := block_set h2 j u
 rwa [Array.setIfInBounds_comm _ _ (fun e => hj e.symm)] at this
theorem StkAt.reset {g o : Nat} {T : TypeId} {cs : Array Value} {ps : List (Tm × Value × Nat)} {M : Nat → Prop} {w : World} (h : StkAt g o T cs ps M w) : ∃ (sa : Option Addr) (cap : Nat), w.cell? ⟨g, o, none⟩ = some (.slice sa ps.length cap) ∧ StkAt g o T cs [] M (w.setCell ⟨g, o, none⟩ (.slice sa 0 cap)) := by
 obtain ⟨h1, v, h2, ho, h3, rfl⟩ := h
 obtain ⟨va, vc, rfl⟩ := own_form h3
 refine ⟨va, vc, (stk_cells h2 ho).2.1, Nat.zero_le _, .slice va 0 vc, stk_set h2 _, ho, ?_, ?_⟩
 ·have h4 : w.ownsRow (g + 1) 206 4 (.slice va 0 vc) 0 (stkCells []) := by
   rcases h3.2 with ⟨h', _⟩ | ⟨gb, cap', cur, h', hb, hg, hnc, hcm, hcs, _⟩
   ·simp only [Value.slice.injEq] at h'
    obtain ⟨rfl, -, rfl⟩ := h'
    exact World.ownsRow_nil _ _ _ _
   ·simp only [Value.slice.injEq] at h'
    obtain ⟨rfl, -, rfl⟩ := h'
    exact ⟨rfl, .inr ⟨gb, vc, cur, rfl, hb, hg, Nat.zero_le _, hcm, hcs, by simp [stkCells]⟩⟩
  exact ownsRow_setCell_below h4 (a := ⟨g, o, none⟩) (Nat.lt_succ_self g) _
 ·funext i
  rcases h3.2 with ⟨h', _⟩ | ⟨gb, cap', cur, h', _⟩
  ·simp only [Value.slice.injEq] at h'
   obtain ⟨rfl, -⟩ := h'
   simp [Value.ownBlock]
  ·simp only [Value.slice.injEq] at h'
   obtain ⟨rfl, -⟩ := h'
   simp [Value.ownBlock]
end Go.Proofs.YteeafpnjpcgfaaaGreat
namespace Go.Proofs.YteeafpnjpcgfaaaGreat
open Go.RowKit
theorem red_cells {g : Nat} {rl mo : Bool} {fuel steps : Nat} {k n : Int} {s : Value} {code : Int} {found : Bool} {xk xn : Int} {xs : Value} {qs : List (Tm × Value × Nat)} {M : Nat → Prop} {w : World} (h : StkAt g 12 139 (redCells rl mo fuel steps k n s code found xk xn xs) qs M w) :
  g < w.heap.size ∧ w.cell? ⟨g, 0, none⟩ = some (.bool rl) ∧ w.cell? ⟨g, 1, none⟩ = some (.bool mo) ∧ w.cell? ⟨g, 2, none⟩ = some (.int .i64 fuel) ∧ w.cell? ⟨g, 3, none⟩ = some (.int .i64 steps) ∧ w.cell? ⟨g, 4, none⟩ = some (.int .i64 k) ∧ w.cell? ⟨g, 5, none⟩ = some (.int .i64 n) ∧ w.cell? ⟨g, 6, none⟩ = some s ∧ w.cell? ⟨g, 7, none⟩ = some (.int .i64 code) ∧
  w.cell? ⟨g, 8, none⟩ = some (.bool found) ∧ w.cell? ⟨g, 9, none⟩ = some (.int .i64 xk) ∧ w.cell? ⟨g, 10, none⟩ = some (.int .i64 xn) ∧ w.cell? ⟨g, 11, none⟩ = some xs ∧ ∀ i, w.frozen? ⟨g, i, none⟩ = false := by
 obtain ⟨h1, v, h2, ho, h3, h4⟩ := h
 obtain ⟨z, c, f⟩ := block_of_cells h2
 exact ⟨z, c 0, c 1, c 2, c 3, c 4, c 5, c 6, c 7, c 8, c 9, c 10, c 11, f⟩
theorem Step.setOwn {M M' : Nat → Prop} {a b : World} (h : Step M a b M') {p : Addr} (hp : M' p.block) (u : Value) : Step M a (b.setCell p u) M' :=
 ⟨h.os, h.tape, h.output, by have := h.size; simpa [World.setCell] using this, fun i hi hn => (Below.heap_setCell b p u i (fun e => hn (h.grow i hi (e ▸ hp)))).trans (h.block i hi hn), h.grow, fun i hi => by simpa [World.setCell] using h.lt i hi⟩
theorem FindPost.no {u : World} {g so : Nat} {sT : TypeId} {scs : Array Value} {ps : List (Tm × Value × Nat)} {M : Nat → Prop} {w w' : World} {t : Tm} {s : Value} {e : Ending} (h : FindPost u g so sT scs ps M w t s none e w') :
  ∃ M', Step M w w' M' ∧ e = .returned (.tuple #[.agg #[.int .i64 t.kind, .int .i64 t.num, s], .bool false]) ∧ StkAt g so sT scs ps M' w' := h
theorem FindPost.yes {u : World} {g so : Nat} {sT : TypeId} {scs : Array Value} {ps : List (Tm × Value × Nat)} {M : Nat → Prop} {w w' : World} {t : Tm} {s : Value} {p : List (Tm × Nat)} {x : Tm} {e : Ending} (h : FindPost u g so sT scs ps M w t s (some (p, x)) e w') :
  ∃ M', Step M w w' M' ∧ ∃ sx qs, e = .returned (.tuple #[.agg #[.int .i64 x.kind, .int .i64 x.num, sx], .bool true]) ∧ SlIn u 0 x.kids sx ∧ StkAt g so sT scs (ps ++ qs) M' w' ∧ Passed u p qs := h
theorem stk_found {g : Nat} {rl mo : Bool} {fuel steps : Nat} {k n : Int} {s : Value} {code : Int} {found : Bool} {xk xn : Int} {xs : Value} {qs : List (Tm × Value × Nat)} {M : Nat → Prop} {w : World} (h : StkAt g 12 139 (redCells rl mo fuel steps k n s code found xk xn xs) qs M w) (xk' xn' : Int) (xs' : Value) (f' : Bool) :
  StkAt g 12 139 (redCells rl mo fuel steps k n s code f' xk' xn' xs') qs M ((((w.setCell ⟨g, 9, none⟩ (.int .i64 xk')).setCell ⟨g, 10, none⟩ (.int .i64 xn')).setCell ⟨g, 11, none⟩ xs').setCell ⟨g, 8, none⟩ (.bool f')) := by
 have := (((h.setOther (j := 9) (by decide) (.int .i64 xk')).setOther (j := 10) (by decide) (.int .i64 xn')).setOther (j := 11) (by decide) xs').setOther (j := 8) (by decide) (.bool f')
 exact this
end Go.Proofs.YteeafpnjpcgfaaaGreat
namespace Go.Proofs.YteeafpnjpcgfaaaGreat
open Go.RowKit
theorem PassX.to {w w' : World} {X X' : Nat → Prop} (hk : ∀ l v, SlX w X l v → SlX w' X' l v) : ∀ {p : List (Tm × Nat)} {qs : List (Tm × Value × Nat)}, PassX w X p qs → PassX w' X' p qs
 | [], [], _ => trivial
 | (t, i) :: p, (t', s, i') :: q, h => ⟨h.1, h.2.1, h.2.2.1, h.2.2.2.1, hk _ _ h.2.2.2.2.1, PassX.to hk h.2.2.2.2.2⟩
 | [], _ :: _, h => by cases h
 | _ :: _, [], h => by cases h
end Go.Proofs.YteeafpnjpcgfaaaGreat
