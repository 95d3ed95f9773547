/-
  VarsH.
-/
import Derived.Test.YtabbbnddfcbdiaaGreatC29
import Derived.Test.YtabbbnddfcbdiaaGreatC32
namespace Go.Proofs.YtabbbnddfcbdiaaGreat
open Go.RowKit
theorem headS_p (T : Tm) (x : Int) (w : World) (v : Value) (h : TmIn w 0 T v) : Calls Tryz.prog 36 #[v, .int .i64 x] w (SCodePost w (normC false true T x) (normT false true T x)) := headS_any T x w v h
theorem head_value {T : Tm} (hv : T.Valid) (hm : mainIx T.kind = -1) {x : Int} (h0 : 0 ≤ x) (h1 : x ≤ 200) : normC false true T x = 0 ∧ normT false true T x = T :=
 norm_fix hv (by rw [Tm.step_head hv.root, if_neg (by rw [redex_none hm]; simp), if_pos hm]) h0 h1
end Go.Proofs.YtabbbnddfcbdiaaGreat
