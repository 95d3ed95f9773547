/-
  RowM, TeleE, TeleH.
-/
import Derived.Test.YtleijaegpfjnpaaB05
import Derived.Test.YtleijaegpfjnpaaB22
import Derived.Test.YtleijaegpfjnpaaB23
import Derived.Test.YtleijaegpfjnpaaB31
import Derived.Test.YtleijaegpfjnpaaB38
import Derived.Test.YtleijaegpfjnpaaB45
import Derived.Test.YtleijaegpfjnpaaB47
import Derived.ChangeAlike
import Derived.Lib.AppendZeros
import Derived.RegionTactic
namespace Go.Proofs.Ytleijaegpfjnpaa
open Go.RowKit
set_option linter.unusedSimpArgs false
theorem cellsL_many : ∀ r : List (Tm × Value), (cellsL r).length = r.length * 3
 | [] => rfl
 | (t, s) :: r => by simp only [cellsL, List.length_cons, cellsL_many r]; omega
end Go.Proofs.Ytleijaegpfjnpaa
namespace Go.Proofs.Ytleijaegpfjnpaa
open Go.RowKit
noncomputable def orNil (P : Prop) (l : List Tm) : List Tm := @ite _ P (Classical.propDecidable P) l []
end Go.Proofs.Ytleijaegpfjnpaa
namespace Go.Proofs.Ytleijaegpfjnpaa
open Go.RowKit
theorem rowT_made (W : World) (base : Nat) (h : base ≤ W.heap.size) : RowT 0 base [] (.slice (some ⟨W.heap.size, 0, none⟩) 0 0) (W.alloc (.cells #[] 29)) := by
 have := World.ownsRow_made W #[] 0 (base := base) (e := 29) (size := 3) h (by simp [maxLen]) rfl
 exact ⟨[], rfl, by simpa [cellsL] using this, fun x h => by cases h⟩
end Go.Proofs.Ytleijaegpfjnpaa
