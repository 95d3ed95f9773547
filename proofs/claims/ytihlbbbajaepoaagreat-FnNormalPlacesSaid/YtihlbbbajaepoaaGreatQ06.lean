/-
  Bind, Num, NumT, SFree, Sub.
-/
import Derived.Test.YtihlbbbajaepoaaGreatQ02
import Derived.Test.YtihlbbbajaepoaaGreatQ05
import Derived.Deep.RegionHeld3
import Derived.IntWalk
import Derived.ProofKit
import Derived.RowKit
import Derived.Test.YtihlbbbajaepoaaGreatProg
import Derived.WalkSpells
namespace Go.Proofs.YtihlbbbajaepoaaGreat
open Go.RowKit
def Made (B : Nat) (t : Tm) (v : Value) (w : World) : Prop := ∃ s F, v = .agg #[.int .i64 t.kind, .int .i64 t.num, s] ∧ SlOwn w t.kids s F ∧ F.Nodup ∧ ∀ g ∈ F, B ≤ g ∧ g < w.heap.size
def VarAt (g : Nat) (k n : Int) (s : Value) (w : World) : Prop := w.heap[g]? = some (.cells #[.int .i64 k, .int .i64 n, s] 34 (0, 0))
theorem VarAt.facts {g : Nat} {k n : Int} {s : Value} {w : World} (h : VarAt g k n s w) : g < w.heap.size ∧ w.cell? ⟨g, 0, none⟩ = some (.int .i64 k) ∧ w.cell? ⟨g, 1, none⟩ = some (.int .i64 n) ∧ w.cell? ⟨g, 2, none⟩ = some s ∧ ∀ i, w.frozen? ⟨g, i, none⟩ = false := by
 obtain ⟨h1, h2, h3⟩ := block_of_cells h
 exact ⟨h1, h2 0, h2 1, h2 2, h3⟩
theorem VarAt.below {g : Nat} {k n : Int} {s : Value} {w w' : World} (h : VarAt g k n s w) (hb : Below w.heap.size w w') : VarAt g k n s w' := (hb.block g h.facts.1).trans h
theorem VarAt.far {g : Nat} {k n : Int} {s : Value} {w : World} (h : VarAt g k n s w) {p : Addr} (hp : g ≠ p.block) (u : Value) : VarAt g k n s (w.setCell p u) := (Below.heap_setCell w p u g hp).trans h
theorem VarAt.far3 {g : Nat} {k n : Int} {s : Value} {w : World} (h : VarAt g k n s w) {g' : Nat} (hp : g ≠ g') (a b c : Nat) (x y z : Value) : VarAt g k n s (((w.setCell ⟨g', a, none⟩ x).setCell ⟨g', b, none⟩ y).setCell ⟨g', c, none⟩ z) :=
 ((h.far (p := ⟨g', a, none⟩) hp _).far (p := ⟨g', b, none⟩) hp _).far (p := ⟨g', c, none⟩) hp _
theorem VarAt.new (w : World) (k n : Int) (s : Value) : VarAt w.heap.size k n s (w.alloc (.cells #[.int .i64 k, .int .i64 n, s] 34)) := heap_new _ _
end Go.Proofs.YtihlbbbajaepoaaGreat
namespace Go.Proofs.YtihlbbbajaepoaaGreat
open Go.RowKit
def under (k : Int) (i : Nat) : Int := if i = 1 ∧ (k = 3 ∨ k = 4 ∨ k = 13) then 1 else 0
theorem under_01 (k : Int) (i : Nat) : 0 ≤ under k i ∧ under k i ≤ 1 := by unfold under; split <;> omega
section
variable {S : Type} (f : S → Tm → Int → Int → Option S)
mutual
def Tm.trav : Tm → Int → Int → S → Option S
 | .mk k n l, b, d, s => (f s (.mk k n l) b d).bind fun s' => travL k l 0 b d s'
def travL : Int → List Tm → Nat → Int → Int → S → Option S
 | _, [], _, _, _, s => some s
 | k, t :: l, i, b, d, s => (t.trav (b + under k i) (d + 1) s).bind fun s' => travL k l (i + 1) b d s'
end
theorem travL_drop {k : Int} {l : List Tm} {q : Nat} {b d : Int} {s : S} (h : q < l.length) :
  travL f k (l.drop q) q b d s = (l[q].trav f (b + under k q) (d + 1) s).bind fun s' => travL f k (l.drop (q + 1)) (q + 1) b d s' := by
 rw [List.drop_eq_getElem_cons h, travL]
theorem travL_end {k : Int} {l : List Tm} {q : Nat} {b d : Int} {s : S} (h : l.length ≤ q) : travL f k (l.drop q) q b d s = some s := by
 rw [List.drop_eq_nil_of_le h, travL]
end
mutual
def Tm.times : Tm → Int → Int
 | .mk k n l, x => (if k = 1 ∧ n = x then 1 else 0) + timesL k l 0 x
def timesL : Int → List Tm → Nat → Int → Int
 | _, [], _, _ => 0
 | k, t :: l, i, x => t.times (x + under k i) + timesL k l (i + 1) x
end
def inc1 (s : Int) : Int := wrap64 (s + 1)
theorem inc1_eq {s : Int} (h : -1000000 ≤ s) (h1 : s ≤ 1000000) : inc1 s = s + 1 := by
 unfold inc1 wrap64
 omega
mutual
def Tm.most : Tm → Int → Int
 | .mk k n l, b => max (if k = 1 ∧ b ≤ n then n - b + 1 else 0) (mostL k l 0 b)
def mostL : Int → List Tm → Nat → Int → Int
 | _, [], _, _ => 0
 | k, t :: l, i, b => max (t.most (b + under k i)) (mostL k l (i + 1) b)
end
mutual
theorem Tm.most_bd : ∀ (t : Tm) (b : Int), t.allOk → 0 ≤ b → 0 ≤ t.most b ∧ t.most b ≤ 21
 | .mk k n l, b, h, hb => by
  rw [Tm.allOk] at h
  have h1 := mostL_bd l k 0 b h.2 hb
  have h2 := h.1.2.2
  rw [Tm.most]
  split
  ·rename_i e
   rw [e.1] at h2
   simp [mostN] at h2
   omega
  ·omega
theorem mostL_bd : ∀ (l : List Tm) (k : Int) (i : Nat) (b : Int), allsOk l → 0 ≤ b → 0 ≤ mostL k l i b ∧ mostL k l i b ≤ 21
 | [], k, i, b, _, _ => by rw [mostL]; omega
 | t :: l, k, i, b, h, hb => by
  rw [allsOk] at h
  have := under_01 k i
  have := Tm.most_bd t (b + under k i) h.1 (by omega)
  have := mostL_bd l k (i + 1) b h.2 hb
  rw [mostL]
  omega
end
theorem mostL_le {k : Int} {b : Int} : ∀ {l : List Tm} {i : Nat} {L : Int}, mostL k l i b ≤ L → ∀ (j : Nat) (h : j < l.length), l[j].most (b + under k (i + j)) ≤ L
 | [], i, L, _, j, h => by simp at h
 | t :: l, i, L, hL, j, h => by
  rw [mostL] at hL
  match j with
  | 0 => simpa using (show t.most (b + under k i) ≤ L by omega)
  | j + 1 =>
   have := mostL_le (l := l) (i := i + 1) (show mostL k l (i + 1) b ≤ L by omega) j (by simpa using h)
   rw [List.getElem_cons_succ, show i + (j + 1) = i + 1 + j by omega]
   exact this
section
variable (ρ : Int → Int → Tm)
end
section
variable (ok : Int → Int → Prop)
end
end Go.Proofs.YtihlbbbajaepoaaGreat
namespace Go.Proofs.YtihlbbbajaepoaaGreat
open Go.RowKit
def zeroT : Tm := .mk 0 0 []
noncomputable def orZero (p : Prop) (t : Tm) : Tm := @ite _ p (Classical.propDecidable p) t zeroT
end Go.Proofs.YtihlbbbajaepoaaGreat
namespace Go.Proofs.YtihlbbbajaepoaaGreat
open Go.RowKit
theorem valid_bounds {t : Tm} (h : t.Valid) : sizes t.kids ≤ 399 ∧ hgts t.kids ≤ 29 := by
 have h1 := h.2.1
 have h2 := h.2.2
 rw [Tm.hgt_eq] at h1
 rw [Tm.size_eq] at h2
 omega
end Go.Proofs.YtihlbbbajaepoaaGreat
namespace Go.Proofs.YtihlbbbajaepoaaGreat
open Go.RowKit
theorem numT_rootOk (m : Nat) : (numT m).rootOk := by
 cases m with
 | zero => exact ⟨rfl, by decide, by decide⟩
 | succ m => exact ⟨rfl, show (0 : Int) ≤ 0 by decide, show (0 : Int) ≤ mostN 8 by decide⟩
theorem hgt_numT (m : Nat) : (numT m).hgt = m + 1 := by
 induction m with
 | zero => rw [numT, Tm.hgt, hgts]
 | succ m ih => rw [numT, Tm.hgt, hgts, hgts, ih]; omega
theorem allOk_numT (m : Nat) : (numT m).allOk := by
 induction m with
 | zero => exact ⟨numT_rootOk 0, trivial⟩
 | succ m ih => exact ⟨numT_rootOk (m + 1), ih, trivial⟩
theorem valid_numT {m : Nat} (h : m ≤ 20) : (numT m).Valid := ⟨allOk_numT m, by rw [hgt_numT]; omega, by rw [numT_size]; omega⟩
end Go.Proofs.YtihlbbbajaepoaaGreat
