/-
  Next.
-/
import Derived.Test.YtpddjebdncaceaaF03
import Derived.Test.YtpddjebdncaceaaF04
import Derived.Test.YtpddjebdncaceaaF07
import Derived.Test.YtpddjebdncaceaaF08
import Derived.Deep.AppendLies
import Derived.Deep.RegionHeld3
import Derived.Deep.RegionLaw
import Derived.Laws.AppendOwn
import Derived.OwnWalk
import Derived.ProofKit
import Derived.RowKit
import Derived.Test.YtpddjebdncaceaaProg
import Derived.WalkSpells
namespace Go.Proofs.Ytpddjebdncaceaa
open Go.RowKit
theorem row_put {w3 : World} {R q : Nat} {l : List Tm} {x : Tm} {s : Value} {F F2 : List Nat} {cs : Array Value} {T : TypeId} (hb : w3.heap[R]? = some (.cells cs T (0, 0))) (hq : q < l.length) (hsz : cs.size = l.length * 3)
  (hrow : RowOwn w3 (l.take q) R 0 F) (hs : SlOwn w3 x.kids s F2) (hR : R ∉ F) (hR2 : R ∉ F2) :
  (∃ cs' : Array Value, (((w3.setCell ⟨R, q * 3, none⟩ (.int .i64 x.kind)).setCell ⟨R, q * 3 + 1, none⟩ (.int .i64 x.num)).setCell ⟨R, q * 3 + 2, none⟩ s).heap[R]? = some (.cells cs' T (0, 0)) ∧ cs'.size = l.length * 3) ∧
   RowOwn (((w3.setCell ⟨R, q * 3, none⟩ (.int .i64 x.kind)).setCell ⟨R, q * 3 + 1, none⟩ (.int .i64 x.num)).setCell ⟨R, q * 3 + 2, none⟩ s) (l.take q ++ [x]) R 0 (F ++ F2) := by
 have h4 := block_set (block_set (block_set hb (q * 3) (.int .i64 x.kind)) (q * 3 + 1) (.int .i64 x.num)) (q * 3 + 2) s
 obtain ⟨_, c3, _⟩ := block_of_cells hb
 obtain ⟨_, c4, _⟩ := block_of_cells h4
 have hsame : ∀ g, g ≠ R → SameAt w3 (((w3.setCell ⟨R, q * 3, none⟩ (.int .i64 x.kind)).setCell ⟨R, q * 3 + 1, none⟩ (.int .i64 x.num)).setCell ⟨R, q * 3 + 2, none⟩ s) g := fun g hg =>
  SameAt.of_block ((Below.heap_setCell _ _ _ _ hg).trans ((Below.heap_setCell _ _ _ _ hg).trans (Below.heap_setCell _ _ _ _ hg)))
 refine ⟨⟨_, h4, by simp [hsz]⟩, RowOwn_append.2 ⟨F, F2, rfl, hrow.keep (fun i hi => ?_) (fun g hg => hsame g (fun e => hR (e ▸ hg))), ?_⟩⟩
 ·rw [List.length_take] at hi
  rw [c4, c3, Nat.zero_add, Array.getElem?_setIfInBounds_ne (by omega), Array.getElem?_setIfInBounds_ne (by omega), Array.getElem?_setIfInBounds_ne (by omega)]
 ·have hl : 0 + (l.take q).length * 3 = q * 3 := by rw [List.length_take]; omega
  rw [hl, RowOwn]
  refine ⟨F2, [], by simp, TmOwn_iff.2 ⟨s, ?_, ?_, ?_, hs.keep fun g hg => hsame g (fun e => hR2 (e ▸ hg))⟩, by rw [RowOwn]⟩
  ·rw [c4, Array.getElem?_setIfInBounds_ne (by omega), Array.getElem?_setIfInBounds_ne (by omega), Array.getElem?_setIfInBounds_self_of_lt (by omega)]
  ·rw [c4, Array.getElem?_setIfInBounds_ne (by omega), Array.getElem?_setIfInBounds_self_of_lt (by simp; omega)]
  ·rw [c4, Array.getElem?_setIfInBounds_self_of_lt (by simp; omega)]
end Go.Proofs.Ytpddjebdncaceaa
namespace Go.Proofs.Ytpddjebdncaceaa
open Go.RowKit
theorem info_term' : (Try.prog.info? 24).map (fun i => (i.zero, i.size, i.bytes)) = some (some (.agg #[.int .i64 0, .int .i64 0, .slice none 0 0]), 3, 40) := by kernel_rfl
theorem VarAt.only {g g' : Nat} {k n : Int} {s : Value} {w w' : World} (h : VarAt g' k n s w) (ho : Only g w w') (hn : g' ≠ g) : VarAt g' k n s w' :=
 (ho.block g' h.facts.1 (fun e => hn (by injection e))).trans h
end Go.Proofs.Ytpddjebdncaceaa
