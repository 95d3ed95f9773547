/-
  RenameTerm's answers about terms.
-/
import Derived.Test.YtmihfbopahoejaaVars
import Derived.Test.YtmihfbopahoejaaRenI
import Derived.Test.YtmihfbopahoejaaIntG
namespace Go.Proofs.Ytmihfbopahoejaa
open Go.RowKit

theorem renI_p (t : Tm) (N : Int → Int) (len : Nat) (w : World) (v nv : Value) (h : TmIn w 0 t v) (hni : Ints w 0 N len nv) : Calls Try.prog 29 #[v, nv] w (PairPost w (orZero (RenameOk t len N) (t.rename N 0)) (tr (RenameOk t len N))) := (renI_any t N len w v nv h hni).mono fun _ _ h => h.pair
end Go.Proofs.Ytmihfbopahoejaa
