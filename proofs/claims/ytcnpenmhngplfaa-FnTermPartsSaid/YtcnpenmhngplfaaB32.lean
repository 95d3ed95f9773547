/-
  Arnd.
-/
import Derived.Test.YtcnpenmhngplfaaB02
import Derived.Test.YtcnpenmhngplfaaB09
import Derived.Test.YtcnpenmhngplfaaB10
import Derived.Test.YtcnpenmhngplfaaB12
import Derived.Test.YtcnpenmhngplfaaB13
import Derived.Test.YtcnpenmhngplfaaB14
import Derived.Test.YtcnpenmhngplfaaB21
import Derived.Test.YtcnpenmhngplfaaB22
import Derived.Test.YtcnpenmhngplfaaB29
import Derived.Test.YtcnpenmhngplfaaB30
import Derived.Deep.AppendLies
import Derived.Deep.DeepCutAuto
import Derived.Deep.RegionLaw
import Derived.Laws.AppendOwn
import Derived.LoopIn
import Derived.LoopNIn
import Derived.OwnWalk
import Derived.OwnWalkIn
import Derived.RangeFuncBound
import Derived.RangeFuncCalls
import Derived.RangeFuncLeaves
import Derived.RangeFuncNested
import Derived.RowKit
import Derived.Shelf.Abstract
import Derived.Shelf.RegionOpen
import Derived.TacticsInMore
import Derived.WalkKit
namespace Go.Proofs.Ytcnpenmhngplfaa
open Go.RowKit Go.Shelf
attribute [local go_sem] Oper.semAt_some
end Go.Proofs.Ytcnpenmhngplfaa
namespace Go.Proofs.Ytcnpenmhngplfaa
open Go.RowKit
end Go.Proofs.Ytcnpenmhngplfaa
namespace Go.Proofs.Ytcnpenmhngplfaa
open Go.RowKit Go.Shelf
attribute [local go_sem] Oper.semAt_some
theorem SlX.list {w : World} {X : Nat → Prop} {l : List Tm} {b o cap : Nat} (h : SlX w X l (.slice (some ⟨b, o, none⟩) l.length cap)) (hne : l ≠ []) : ∃ r : List (Tm × Value), r.map (·.1) = l ∧ (∀ j u, (cellsL r)[j]? = some u → w.cell? ⟨b, o + j, none⟩ = some u) ∧ ∀ x ∈ r, SlX w X x.1.kids x.2 := by
 obtain ⟨a, cap', b', o', e, h1, h2, h3⟩ := h
 obtain ⟨rfl, -⟩ := h2 hne
 simp only [Value.slice.injEq, Option.some.injEq, Addr.mk.injEq, and_true, true_and] at e
 obtain ⟨⟨rfl, rfl⟩, rfl⟩ := e
 obtain ⟨r, hr, hc, hx⟩ := h3.list
 exact ⟨r, hr, fun j u hu => (mask_cell.1 (hc j u hu)).2, fun x hx' => hx x hx'⟩
theorem SlX.one {w : World} {X : Nat → Prop} {r : List (Tm × Value)} (h : ∀ x ∈ r, SlX w X x.1.kids x.2) : ∀ u ∈ cellsL r, u.oneCell' = true := cellsL_one (B := 0) (w := mask w X) h
end Go.Proofs.Ytcnpenmhngplfaa
