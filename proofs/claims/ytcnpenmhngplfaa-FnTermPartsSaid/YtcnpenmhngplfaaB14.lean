/-
  Next.
-/
import Derived.Test.YtcnpenmhngplfaaB02
import Derived.Test.YtcnpenmhngplfaaB08
import Derived.Test.YtcnpenmhngplfaaB12
import Derived.Test.YtcnpenmhngplfaaB13
import Derived.Deep.AppendLies
import Derived.Deep.RegionLaw
import Derived.Laws.AppendOwn
import Derived.OwnWalk
import Derived.RowKit
namespace Go.Proofs.Ytcnpenmhngplfaa
open Go.RowKit
end Go.Proofs.Ytcnpenmhngplfaa
namespace Go.Proofs.Ytcnpenmhngplfaa
open Go.RowKit
theorem info_term' : (Try.prog.info? 25).map (fun i => (i.zero, i.size, i.bytes)) = some (some (.agg #[.int .i64 0, .int .i64 0, .slice none 0 0]), 3, 40) := by kernel_rfl
theorem VarAt.only {g g' : Nat} {k n : Int} {s : Value} {w w' : World} (h : VarAt g' k n s w) (ho : Only g w w') (hn : g' ≠ g) : VarAt g' k n s w' :=
 (ho.block g' h.facts.1 (fun e => hn (by injection e))).trans h
theorem SlOwn.only {g : Nat} {l : List Tm} {v : Value} {F : List Nat} {w w' : World} (h : SlOwn w l v F) (ho : Only g w w') (hF : ∀ x ∈ F, x < w.heap.size ∧ x ≠ g) : SlOwn w' l v F :=
 h.keep fun x hx => SameAt.of_block (ho.block x (hF x hx).1 (fun e => (hF x hx).2 (by injection e)))
end Go.Proofs.Ytcnpenmhngplfaa
