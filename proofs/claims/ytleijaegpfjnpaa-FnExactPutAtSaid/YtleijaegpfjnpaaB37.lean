/-
  NodeX.
-/
import Derived.Test.YtleijaegpfjnpaaB30
import Derived.Test.YtleijaegpfjnpaaB36
namespace Go.Proofs.Ytleijaegpfjnpaa
open Go.RowKit
theorem SlX.put {w : World} {X : Nat → Prop} {l : List Tm} {v : Value} (h : SlX w X l v) {g : Nat} (hg : X g) (i j k : Nat) (x y z : Value) : SlX (((w.setCell ⟨g, i, none⟩ x).setCell ⟨g, j, none⟩ y).setCell ⟨g, k, none⟩ z) X l v :=
 ((h.set (q := ⟨g, i, none⟩) hg _).set (q := ⟨g, j, none⟩) hg _).set (q := ⟨g, k, none⟩) hg _
theorem SlX.less {w : World} {X Y : Nat → Prop} {l : List Tm} {v : Value} (h : SlX w Y l v) (hXY : ∀ i, X i → Y i) : SlX w X l v :=
 h.to fun _ _ hn hc => ⟨fun hx => hn (hXY _ hx), hc⟩
end Go.Proofs.Ytleijaegpfjnpaa
