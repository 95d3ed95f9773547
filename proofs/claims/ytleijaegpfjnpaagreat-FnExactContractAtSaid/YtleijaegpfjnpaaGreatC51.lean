/-
  ContrT.
-/
import Derived.Test.YtleijaegpfjnpaaGreatC44
import Derived.Test.YtleijaegpfjnpaaGreatC47
namespace Go.Proofs.YtleijaegpfjnpaaGreat
open Go.RowKit
theorem lcontract_any (t : Tm) (hr : t.rootOk) (hk : ∀ i (hi : i < t.kids.length), t.kids[i].Valid) (h0 : t.redex ≠ 0) (w : World) (s : Value) (hs : SlIn w 0 t.kids s) :
  Calls Tryz.prog 19 #[.agg #[.int .i64 t.kind, .int .i64 t.num, s]] w (SPost w t.contr) := by
 rcases redex_shape hr h0 with ⟨e, -⟩ | ⟨e, -⟩ | ⟨e, -⟩ | ⟨e, -⟩ | ⟨e, -⟩ | ⟨e, -⟩
 ·exact lcontr1_any t hr hk e w s hs
 ·exact lcontr2_any t hr hk e w s hs
 ·exact lcontr3_any t hr hk e w s hs
 ·exact lcontr4_any t hr hk e w s hs
 ·exact lcontr5_any t hr hk e w s hs
 ·exact lcontr6_any t hr hk e w s hs
end Go.Proofs.YtleijaegpfjnpaaGreat
