/-
  ContrS.
-/
import Derived.Test.YtpddjebdncaceaaF03
import Derived.Test.YtpddjebdncaceaaF04
import Derived.Test.YtpddjebdncaceaaF07
import Derived.Test.YtpddjebdncaceaaF08
import Derived.Test.YtpddjebdncaceaaF09
import Derived.Test.YtpddjebdncaceaaF11
import Derived.Test.YtpddjebdncaceaaF12
import Derived.Test.YtpddjebdncaceaaF17
import Derived.Test.YtpddjebdncaceaaF18
import Derived.Test.YtpddjebdncaceaaF19
import Derived.Deep.DeepCutAuto
import Derived.Deep.RegionHeld3
import Derived.IntWalk
import Derived.ProofKit
import Derived.RowKit
import Derived.Test.YtpddjebdncaceaaProg
import Derived.WalkSpells
namespace Go.Proofs.Ytpddjebdncaceaa
open Go.RowKit
theorem SlX.from {w : World} {B : Nat} : ∀ {l : List Tm} {v : Value}, SlX w (fun i => i < B) l v → SlIn w B l v := by
 intro l
 induction l using Tm.ind with
 | h l ih =>
  intro v h
  obtain ⟨a, cap, b, o, rfl, h1, h2, h3⟩ := h.open
  refine ⟨a, cap, b, o, rfl, h1, fun hn => ⟨(h2 hn).1, Nat.not_lt.1 (h2 hn).2.1⟩, RowAt.of_get fun i hi => ?_⟩
  obtain ⟨s, c0, c1, c2, hs⟩ := h3 i hi
  exact TmAt_iff.2 ⟨s, c0, c1, c2, ih i hi hs⟩
end Go.Proofs.Ytpddjebdncaceaa
