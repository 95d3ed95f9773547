/-
  DrawsU, VarsF.
-/
import Derived.Test.YtpddjebdncaceaaGreatQ35
import Derived.Test.YtpddjebdncaceaaGreatQ44
import Derived.Test.YtpddjebdncaceaaGreatQ47
import Derived.Test.YtpddjebdncaceaaGreatQ49
namespace Go.Proofs.YtpddjebdncaceaaGreat
open Go.RowKit
theorem Only.ofDrewR {g : Nat} {w w' : World} (h : Only g w.drew w') : Only g w w' := ⟨h.os, h.tape, h.output, h.size, h.block⟩
theorem Rd.drewR {g : Nat} {a : Option Addr} {len cap p : Nat} {w : World} (h : Rd g a len cap p w) : Rd g a len cap p w.drew := h
theorem Bytes.drewR {U : Nat → Int} {a : Option Addr} {b o len : Nat} {w : World} (h : Bytes U a b o len w) : Bytes U a b o len w.drew := h
theorem VarAt.drewR {g : Nat} {k n : Int} {s : Value} {w : World} (h : VarAt g k n s w) : VarAt g k n s w.drew := h
end Go.Proofs.YtpddjebdncaceaaGreat
namespace Go.Proofs.YtpddjebdncaceaaGreat
open Go.RowKit
set_option linter.unusedVariables false
set_option linter.unusedSimpArgs false
theorem contrAtI_p {t : Tm} {N : Int → Int} {len : Nat} (hlen : len ≤ 1048576) (w : World) (v tv : Value) (hl : Ints w 0 N len v) (ht : TmIn w 0 t tv) : Calls Tryz.prog 20 #[tv, v] w (PairPost w (orZero (ContrAt t N len) (contrAt t N len)) (tr (ContrAt t N len))) := (contractAtI_any t N len hlen w tv v ht hl).mono fun _ _ h => h.pair
theorem contrAtS_p {t : Tm} {N : Int → Int} {len : Nat} (hlen : len ≤ 1048576) (w : World) (v tv : Value) (hl : IntsC w 0 N len v) (ht : TmIn w 0 t tv) : Calls Tryz.prog 21 #[tv, v] w (PairPost w (orZero (ContrAt t N len) (contrAt t N len)) (tr (ContrAt t N len))) := (contractAtS_any t N len hlen w tv v ht hl).mono fun _ _ h => h.pair8
end Go.Proofs.YtpddjebdncaceaaGreat
