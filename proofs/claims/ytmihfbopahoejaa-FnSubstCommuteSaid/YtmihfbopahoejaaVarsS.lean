/-
  SubstTerm's and Instantiate's answers about terms.
-/
import Derived.Test.YtmihfbopahoejaaVars
import Derived.Test.YtmihfbopahoejaaSpecW
namespace Go.Proofs.Ytmihfbopahoejaa
open Go.RowKit

theorem SNewPost.pair {w w' : World} {P : Prop} {T : Tm} {e : Ending} (h : SNewPost w P T e w') : PairPost w (orZero P T) (tr P) e w' := h.weak
theorem substI_p (t u : Tm) (x : Int) (w : World) (v v' : Value) (h : TmIn w 0 t v) (h' : TmIn w 0 u v') : Calls Try.prog 22 #[v, .int .i64 x, v'] w (PairPost w (orZero (SubstOk t x u) (t.subst u x 0)) (tr (SubstOk t x u))) := (substI_any t u x w v v' h h').mono fun _ _ h => h.pair
theorem substS_p (t u : Tm) (x : Int) (w : World) (v v' : Value) (h : TmIn w 0 t v) (h' : TmIn w 0 u v') : Calls Try.prog 23 #[v, .int .i64 x, v'] w (PairPost w (orZero (SubstOk t x u) (t.subst u x 0)) (tr (SubstOk t x u))) := (subS_any t u x w v v' h h').mono fun _ _ h => h.pair
theorem instI_p (t u : Tm) (w : World) (v v' : Value) (h : TmIn w 0 t v) (h' : TmIn w 0 u v') : Calls Try.prog 32 #[v, v'] w (PairPost w (orZero (SubstOk t 0 u) (t.subst u 0 0)) (tr (SubstOk t 0 u))) := (instI_any t u w v v' h h').mono fun _ _ h => h.pair
theorem instS_p (t u : Tm) (w : World) (v v' : Value) (h : TmIn w 0 t v) (h' : TmIn w 0 u v') : Calls Try.prog 33 #[v, v'] w (PairPost w (orZero (SubstOk t 0 u) (t.subst u 0 0)) (tr (SubstOk t 0 u))) := (instS_any t u w v v' h h').mono fun _ _ h => h.pair

end Go.Proofs.Ytmihfbopahoejaa
