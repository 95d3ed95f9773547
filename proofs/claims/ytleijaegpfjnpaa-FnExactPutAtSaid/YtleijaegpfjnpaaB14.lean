/-
  Free.
-/
import Derived.Test.YtleijaegpfjnpaaB07
import Derived.Test.YtleijaegpfjnpaaB13
namespace Go.Proofs.Ytleijaegpfjnpaa
open Go.RowKit
theorem Step.setCell {M M' : Nat → Prop} {a b : World} (h : Step M a b M') {p : Addr} (hp : M' p.block) (u : Value) : Step M a (b.setCell p u) M' :=
 h.trans ⟨rfl, rfl, rfl, by simp [World.setCell], fun i _ hn => Below.heap_setCell b p u i (fun e => hn (by rw [e]; exact hp)), fun _ _ h => h, fun i hi => by simpa [World.setCell] using h.lt i hi⟩
end Go.Proofs.Ytleijaegpfjnpaa
