/-
  ContrE.
-/
import Derived.Test.YtihlbbbajaepoaaGreatR08
import Derived.Test.YtihlbbbajaepoaaGreatR12
import Derived.Test.YtihlbbbajaepoaaGreatR16
import Derived.Test.YtihlbbbajaepoaaGreatR19
import Derived.Test.YtihlbbbajaepoaaGreatR24
import Derived.Deep.DeepCutAuto
namespace Go.Proofs.YtihlbbbajaepoaaGreat
open Go.RowKit
end Go.Proofs.YtihlbbbajaepoaaGreat
namespace Go.Proofs.YtihlbbbajaepoaaGreat
open Go.RowKit
def With (X : Nat → Prop) (w : World) (n : Nat) : Nat → Prop := fun i => X i ∨ (w.heap.size ≤ i ∧ i < n)
theorem SlX.widen {w W : World} {X : Nat → Prop} {l : List Tm} {v : Value} (h : SlX w X l v) (hb : Below w.heap.size w W) (n : Nat) : SlX W (With X w n) l v :=
 h.to fun p u hn hc => ⟨fun hx => by
  rcases hx with hx | hx
  ·exact hn hx
  ·have := World.block_lt_of_cell? w p hc; omega, (hb.cell (World.block_lt_of_cell? w p hc)).trans hc⟩
theorem SlX.narrow {w : World} {X Y : Nat → Prop} {l : List Tm} {v : Value} (h : SlX w Y l v) (hXY : ∀ i, X i → Y i) : SlX w X l v :=
 h.to fun _ _ hn hc => ⟨fun hx => hn (hXY _ hx), hc⟩
theorem SlX.set3 {w : World} {X : Nat → Prop} {l : List Tm} {v : Value} (h : SlX w X l v) {g : Nat} (hg : X g) (i j k : Nat) (x y z : Value) : SlX (((w.setCell ⟨g, i, none⟩ x).setCell ⟨g, j, none⟩ y).setCell ⟨g, k, none⟩ z) X l v :=
 ((h.set (q := ⟨g, i, none⟩) hg _).set (q := ⟨g, j, none⟩) hg _).set (q := ⟨g, k, none⟩) hg _
end Go.Proofs.YtihlbbbajaepoaaGreat
namespace Go.Proofs.YtihlbbbajaepoaaGreat
open Go.RowKit
end Go.Proofs.YtihlbbbajaepoaaGreat
