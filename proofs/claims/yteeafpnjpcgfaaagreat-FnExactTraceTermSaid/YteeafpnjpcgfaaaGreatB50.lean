/-
  NormK.
-/
import Derived.Test.YteeafpnjpcgfaaaGreatB18
import Derived.Test.YteeafpnjpcgfaaaGreatB33
import Derived.Test.YteeafpnjpcgfaaaGreatB47
import Derived.Deep.DeepCutAuto
namespace Go.Proofs.YteeafpnjpcgfaaaGreat
open Go.RowKit
theorem stk_next {g : Nat} {rl mo : Bool} {fuel steps : Nat} {k n : Int} {s : Value} {code : Int} {found : Bool} {xk xn : Int} {xs : Value} {qs : List (Tm × Value × Nat)} {M : Nat → Prop} {w : World} (h : StkAt g 12 139 (redCells rl mo fuel steps k n s code found xk xn xs) qs M w) (k' n' : Int) (s' : Value) :
  StkAt g 12 139 (redCells rl mo fuel (steps + 1) k' n' s' code found xk xn xs) qs M ((((w.setCell ⟨g, 4, none⟩ (.int .i64 k')).setCell ⟨g, 5, none⟩ (.int .i64 n')).setCell ⟨g, 6, none⟩ s').setCell ⟨g, 3, none⟩ (.int .i64 ((steps : Int) + 1))) := by
 have := (((h.setOther (j := 4) (by decide) (.int .i64 k')).setOther (j := 5) (by decide) (.int .i64 n')).setOther (j := 6) (by decide) s').setOther (j := 3) (by decide) (.int .i64 ((steps : Int) + 1))
 exact this
theorem SlX.wideB {w W : World} {M : Nat → Prop} {l : List Tm} {v : Value} (h : SlX w M l v) (hb : Below w.heap.size w W) : SlX W (fun i => M i ∨ i = w.heap.size) l v :=
 h.to fun p u hn hc => ⟨fun hx => hx.elim hn (fun e => by have := World.block_lt_of_cell? w p hc; omega), (hb.cell (World.block_lt_of_cell? w p hc)).trans hc⟩
end Go.Proofs.YteeafpnjpcgfaaaGreat
