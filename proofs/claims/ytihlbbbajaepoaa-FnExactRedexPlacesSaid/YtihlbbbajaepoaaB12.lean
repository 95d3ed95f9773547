/-
  Free.
-/
import Derived.Test.YtihlbbbajaepoaaB06
import Derived.Test.YtihlbbbajaepoaaB11
namespace Go.Proofs.Ytihlbbbajaepoaa
open Go.RowKit
theorem Step.setCell {M M' : Nat → Prop} {a b : World} (h : Step M a b M') {p : Addr} (hp : M' p.block) (u : Value) : Step M a (b.setCell p u) M' :=
 h.trans ⟨rfl, rfl, rfl, by simp [World.setCell], fun i _ hn => Below.heap_setCell b p u i (fun e => hn (by rw [e]; exact hp)), fun _ _ h => h, fun i hi => by simpa [World.setCell] using h.lt i hi⟩
end Go.Proofs.Ytihlbbbajaepoaa
