/-
  VarsM.
-/
import Derived.Test.YtabbbnddfcbdiaaGreatC29
import Derived.Test.YtabbbnddfcbdiaaGreatC30
namespace Go.Proofs.YtabbbnddfcbdiaaGreat
open Go.RowKit
theorem normS_p (T : Tm) (hsz : sizes T.kids ≤ 1048576) (x : Int) (w : World) (v : Value) (h : TmIn w 0 T v) : Calls Tryz.prog 18 #[v, .int .i64 x] w (SCodePost w (normC false false T x) (normT false false T x)) := normTS_any T hsz x w v h
theorem innerS_p (T : Tm) (hsz : sizes T.kids ≤ 1048576) (x : Int) (w : World) (v : Value) (h : TmIn w 0 T v) : Calls Tryz.prog 19 #[v, .int .i64 x] w (SCodePost w (normC true false T x) (normT true false T x)) := normNS_any T hsz x w v h
end Go.Proofs.YtabbbnddfcbdiaaGreat
