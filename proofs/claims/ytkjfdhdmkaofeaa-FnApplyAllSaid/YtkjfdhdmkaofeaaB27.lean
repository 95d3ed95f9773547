/-
  LawT, Arnd, TeleP, Vars.
-/
import Derived.Test.YtkjfdhdmkaofeaaB01
import Derived.Test.YtkjfdhdmkaofeaaB05
import Derived.Test.YtkjfdhdmkaofeaaB06
import Derived.Test.YtkjfdhdmkaofeaaB08
import Derived.Test.YtkjfdhdmkaofeaaB09
import Derived.Test.YtkjfdhdmkaofeaaB11
import Derived.Test.YtkjfdhdmkaofeaaB13
import Derived.Test.YtkjfdhdmkaofeaaB14
import Derived.Test.YtkjfdhdmkaofeaaB17
import Derived.Test.YtkjfdhdmkaofeaaB18
import Derived.Test.YtkjfdhdmkaofeaaB19
import Derived.Test.YtkjfdhdmkaofeaaB20
import Derived.Test.YtkjfdhdmkaofeaaB21
import Derived.Test.YtkjfdhdmkaofeaaB22
import Derived.Test.YtkjfdhdmkaofeaaB26
import Derived.Deep.AppendLies
import Derived.Deep.DeepCutAuto
import Derived.Deep.RegionLaw
import Derived.Laws.AppendOwn
import Derived.Laws.MakeOwn
import Derived.LoopIn
import Derived.LoopNIn
import Derived.OwnWalk
import Derived.OwnWalkIn
import Derived.ProofKit
import Derived.RangeFuncBound
import Derived.RangeFuncCalls
import Derived.RangeFuncLeaves
import Derived.RangeFuncNested
import Derived.Shelf.Abstract
import Derived.Shelf.RegionOpen
import Derived.StillTailTactics
import Derived.TacticsInMore
import Derived.Test.YtkjfdhdmkaofeaaProg
import Derived.WalkKit
import Derived.WalkSpells
namespace Go.Proofs.Ytkjfdhdmkaofeaa
open Go.RowKit
end Go.Proofs.Ytkjfdhdmkaofeaa
namespace Go.Proofs.Ytkjfdhdmkaofeaa
open Go.RowKit
def BoxAt (g : Nat) (k n : Int) (s : Value) (w : World) : Prop := g < w.heap.size ∧ w.cell? ⟨g, 0, none⟩ = some (.int .i64 k) ∧ w.cell? ⟨g, 1, none⟩ = some (.int .i64 n) ∧ w.cell? ⟨g, 2, none⟩ = some s
theorem BoxAt.below {g : Nat} {k n : Int} {s : Value} {w w' : World} (h : BoxAt g k n s w) (hb : Below w.heap.size w w') : BoxAt g k n s w' :=
 ⟨Nat.lt_of_lt_of_le h.1 hb.size, (hb.cell (p := ⟨g, 0, none⟩) h.1).trans h.2.1, (hb.cell (p := ⟨g, 1, none⟩) h.1).trans h.2.2.1, (hb.cell (p := ⟨g, 2, none⟩) h.1).trans h.2.2.2⟩
end Go.Proofs.Ytkjfdhdmkaofeaa
namespace Go.Proofs.Ytkjfdhdmkaofeaa
open Go.RowKit
theorem sameAt_set {w : World} {p : Addr} {u : Value} {g : Nat} (h : g ≠ p.block) : SameAt w (w.setCell p u) g := SameAt.of_block (Below.heap_setCell w p u g h)
theorem SameAt.trans {a b c : World} {g : Nat} (h : SameAt a b g) (k : SameAt b c g) : SameAt a c g := fun i => ⟨(k i).1.trans (h i).1, (k i).2.trans (h i).2⟩
end Go.Proofs.Ytkjfdhdmkaofeaa
namespace Go.Proofs.Ytkjfdhdmkaofeaa
open Go.RowKit
end Go.Proofs.Ytkjfdhdmkaofeaa
namespace Go.Proofs.Ytkjfdhdmkaofeaa
open Go.RowKit
theorem hold_be {w w1 : World} {q : Prop} (h : Below w.heap.size w w1 ∧ q) : Below w.heap.size w w1 := h.1
theorem BoxAt.set1 {g : Nat} {k n : Int} {s : Value} {w : World} {p : Addr} {u : Value} (h : BoxAt g k n s w) (hp : p.block ≠ g) : BoxAt g k n s (w.setCell p u) := by
 have hz : (w.setCell p u).heap.size = w.heap.size := by simp [World.setCell]
 exact ⟨by rw [hz]; exact h.1, (World.cell?_setCell_far w p _ u hp).trans h.2.1, (World.cell?_setCell_far w p _ u hp).trans h.2.2.1, (World.cell?_setCell_far w p _ u hp).trans h.2.2.2⟩
theorem VarAt.set3 {g : Nat} {k n k' n' : Int} {s s' : Value} {w : World} (h : VarAt g k n s w) : VarAt g k' n' s' (((w.setCell ⟨g, 0, none⟩ (.int .i64 k')).setCell ⟨g, 1, none⟩ (.int .i64 n')).setCell ⟨g, 2, none⟩ s') := by
 have h0 : VarAt g k' n s (w.setCell ⟨g, 0, none⟩ (.int .i64 k')) := by
  have := block_set h 0 (.int .i64 k')
  simpa [VarAt] using this
 have h1 : VarAt g k' n' s ((w.setCell ⟨g, 0, none⟩ (.int .i64 k')).setCell ⟨g, 1, none⟩ (.int .i64 n')) := by
  have := block_set h0 1 (.int .i64 n')
  simpa [VarAt] using this
 have := block_set h1 2 s'
 simpa [VarAt] using this
theorem VarAt.four {g : Nat} {k n : Int} {s : Value} {w : World} (h : VarAt g k n s w) : g < w.heap.size ∧ w.cell? ⟨g, 0, none⟩ = some (.int .i64 k) ∧ w.cell? ⟨g, 1, none⟩ = some (.int .i64 n) ∧ w.cell? ⟨g, 2, none⟩ = some s := ⟨h.facts.1, h.facts.2.1, h.facts.2.2.1, h.facts.2.2.2.1⟩
end Go.Proofs.Ytkjfdhdmkaofeaa
namespace Go.Proofs.Ytkjfdhdmkaofeaa
open Go.RowKit
structure TV (g : Nat) (T : Tm) (a : Option Addr) (c : Nat) (w : World) : Prop where
 var : VarAt g T.kind T.num (.slice a T.kids.length c) w
 sl : SlIn w 0 T.kids (.slice a T.kids.length c)
theorem TV.below {g : Nat} {T : Tm} {a : Option Addr} {c : Nat} {w w' : World} (h : TV g T a c w) (hb : Below w.heap.size w w') : TV g T a c w' := ⟨h.var.below hb, h.sl.below hb⟩
theorem TV.new {T : Tm} {a : Option Addr} {c : Nat} {w : World} (h : SlIn w 0 T.kids (.slice a T.kids.length c)) : TV w.heap.size T a c (w.alloc (.cells #[.int .i64 T.kind, .int .i64 T.num, .slice a T.kids.length c] 25)) := ⟨VarAt.new _ _ _ _, h.below (below1 _ _)⟩
theorem TV.tm {g : Nat} {T : Tm} {a : Option Addr} {c : Nat} {w : World} (h : TV g T a c w) : TmIn w 0 T (.agg #[.int .i64 T.kind, .int .i64 T.num, .slice a T.kids.length c]) := ⟨_, rfl, h.sl⟩
theorem TV.facts {g : Nat} {T : Tm} {a : Option Addr} {c : Nat} {w : World} (h : TV g T a c w) : g < w.heap.size ∧ w.cell? ⟨g, 0, none⟩ = some (.int .i64 T.kind) ∧ w.cell? ⟨g, 1, none⟩ = some (.int .i64 T.num) ∧ w.cell? ⟨g, 2, none⟩ = some (.slice a T.kids.length c) ∧ ∀ i, w.frozen? ⟨g, i, none⟩ = false := h.var.facts
def PairPost (w : World) (T : Tm) (b : Bool) (e : Ending) (w' : World) : Prop := Below w.heap.size w w' ∧ ∃ v, e = .returned (.tuple #[v, .bool b]) ∧ TmIn w' 0 T v
theorem ReplPost.pair {w w' : World} {P : Prop} {T : Tm} {e : Ending} (h : ReplPost w P T e w') : PairPost w (orZero P T) (tr P) e w' := by
 obtain ⟨hb, v, he, s, F, hv, hs, -, -⟩ := h
 exact ⟨hb, v, he, s, hv, hs.sl fun _ _ => Nat.zero_le _⟩
theorem orZero_yes {P : Prop} {T : Tm} (h : P) : orZero P T = T := by unfold orZero; rw [if_pos h]
theorem orZero_no {P : Prop} {T : Tm} (h : ¬ P) : orZero P T = zeroT := by unfold orZero; rw [if_neg h]
theorem same_z (w : World) (v1 v2 : Value) (h1 : TmIn w 0 zeroT v1) (h2 : TmIn w 0 zeroT v2) : Calls Try.prog 9 #[v1, v2] w (BoolPost w true) := by
 have := termSame_any zeroT zeroT w v1 v2 (Or.inr rfl) h1 h2
 rwa [same_self] at this
theorem same_v {T : Tm} (hT : T.Valid) (w : World) (v1 v2 : Value) (h1 : TmIn w 0 T v1) (h2 : TmIn w 0 T v2) : Calls Try.prog 9 #[v1, v2] w (BoolPost w true) := by
 have := termSame_any T T w v1 v2 (Or.inl hT) h1 h2
 rwa [same_self] at this
end Go.Proofs.Ytkjfdhdmkaofeaa
namespace Go.Proofs.Ytkjfdhdmkaofeaa
open Go.RowKit
def TlRes (w : World) (P : Prop) (T : Tm) (e : Ending) (w' : World) : Prop := Below w.heap.size w w' ∧ ∃ (a : Option Addr) (c : Nat), e = .returned (.tuple #[.agg #[.int .i64 (orZero P T).kind, .int .i64 (orZero P T).num, .slice a (orZero P T).kids.length c], .bool (tr P)]) ∧ SlIn w' w.heap.size (orZero P T).kids (.slice a (orZero P T).kids.length c)
theorem TlRes.no {w w' : World} {P : Prop} {T : Tm} (hP : ¬ P) (hb : Below w.heap.size w w') : TlRes w P T (.returned (.tuple #[.agg #[.int .i64 0, .int .i64 0, .slice none 0 0], .bool false])) w' := by
 have h : orZero P T = zeroT := by unfold orZero; rw [if_neg hP]
 refine ⟨hb, none, 0, ?_, ?_⟩
 ·rw [h, tr_not hP]; rfl
 ·rw [h]; exact SlIn.nil _ _ _ _
theorem TlRes.yes {w w' : World} {P : Prop} {T : Tm} {a : Option Addr} {c : Nat} (hP : P) (hb : Below w.heap.size w w') (hs : SlIn w' w.heap.size T.kids (.slice a T.kids.length c)) : TlRes w P T (.returned (.tuple #[.agg #[.int .i64 T.kind, .int .i64 T.num, .slice a T.kids.length c], .bool true])) w' := by
 have h : orZero P T = T := by unfold orZero; rw [if_pos hP]
 refine ⟨hb, a, c, ?_, ?_⟩
 ·rw [h, tr_of hP]
 ·rw [h]; exact hs
end Go.Proofs.Ytkjfdhdmkaofeaa
namespace Go.Proofs.Ytkjfdhdmkaofeaa
open Go.RowKit Go.Shelf
attribute [local go_sem] Oper.semAt_some
end Go.Proofs.Ytkjfdhdmkaofeaa
namespace Go.Proofs.Ytkjfdhdmkaofeaa
open Go.RowKit
end Go.Proofs.Ytkjfdhdmkaofeaa
namespace Go.Proofs.Ytkjfdhdmkaofeaa
open Go.RowKit Go.Shelf
attribute [local go_sem] Oper.semAt_some
theorem SlX.list {w : World} {X : Nat → Prop} {l : List Tm} {b o cap : Nat} (h : SlX w X l (.slice (some ⟨b, o, none⟩) l.length cap)) (hne : l ≠ []) : ∃ r : List (Tm × Value), r.map (·.1) = l ∧ (∀ j u, (cellsL r)[j]? = some u → w.cell? ⟨b, o + j, none⟩ = some u) ∧ ∀ x ∈ r, SlX w X x.1.kids x.2 := by
 obtain ⟨a, cap', b', o', e, h1, h2, h3⟩ := h
 obtain ⟨rfl, -⟩ := h2 hne
 simp only [Value.slice.injEq, Option.some.injEq, Addr.mk.injEq, and_true, true_and] at e
 obtain ⟨⟨rfl, rfl⟩, rfl⟩ := e
 obtain ⟨r, hr, hc, hx⟩ := h3.list
 exact ⟨r, hr, fun j u hu => (mask_cell.1 (hc j u hu)).2, fun x hx' => hx x hx'⟩
theorem SlX.one {w : World} {X : Nat → Prop} {r : List (Tm × Value)} (h : ∀ x ∈ r, SlX w X x.1.kids x.2) : ∀ u ∈ cellsL r, u.oneCell' = true := cellsL_one (B := 0) (w := mask w X) h
end Go.Proofs.Ytkjfdhdmkaofeaa
