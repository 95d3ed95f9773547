/-
  Vars.
-/
import Derived.Test.YtcnpenmhngplfaaB02
import Derived.Test.YtcnpenmhngplfaaB12
import Derived.Test.YtcnpenmhngplfaaB14
import Derived.Test.YtcnpenmhngplfaaB15
import Derived.Test.YtcnpenmhngplfaaB22
import Derived.Test.YtcnpenmhngplfaaB26
import Derived.Test.YtcnpenmhngplfaaB27
import Derived.Carry
import Derived.RowKit
namespace Go.Proofs.Ytcnpenmhngplfaa
open Go.RowKit
structure TV (g : Nat) (T : Tm) (a : Option Addr) (c : Nat) (w : World) : Prop where
 var : VarAt g T.kind T.num (.slice a T.kids.length c) w
 sl : SlIn w 0 T.kids (.slice a T.kids.length c)
theorem TV.below {g : Nat} {T : Tm} {a : Option Addr} {c : Nat} {w w' : World} (h : TV g T a c w) (hb : Below w.heap.size w w') : TV g T a c w' := ⟨h.var.below hb, h.sl.below hb⟩
theorem TV.new {T : Tm} {a : Option Addr} {c : Nat} {w : World} (h : SlIn w 0 T.kids (.slice a T.kids.length c)) : TV w.heap.size T a c (w.alloc (.cells #[.int .i64 T.kind, .int .i64 T.num, .slice a T.kids.length c] 25)) := ⟨VarAt.new _ _ _ _, h.below (below1 _ _)⟩
theorem TV.tm {g : Nat} {T : Tm} {a : Option Addr} {c : Nat} {w : World} (h : TV g T a c w) : TmIn w 0 T (.agg #[.int .i64 T.kind, .int .i64 T.num, .slice a T.kids.length c]) := ⟨_, rfl, h.sl⟩
theorem TV.facts {g : Nat} {T : Tm} {a : Option Addr} {c : Nat} {w : World} (h : TV g T a c w) : g < w.heap.size ∧ w.cell? ⟨g, 0, none⟩ = some (.int .i64 T.kind) ∧ w.cell? ⟨g, 1, none⟩ = some (.int .i64 T.num) ∧ w.cell? ⟨g, 2, none⟩ = some (.slice a T.kids.length c) ∧ ∀ i, w.frozen? ⟨g, i, none⟩ = false := h.var.facts
end Go.Proofs.Ytcnpenmhngplfaa
