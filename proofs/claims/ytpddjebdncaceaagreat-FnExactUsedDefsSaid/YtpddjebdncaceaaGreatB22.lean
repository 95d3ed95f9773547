/-
  LawL.
-/
import Derived.Test.YtpddjebdncaceaaGreatB10
import Derived.Test.YtpddjebdncaceaaGreatB14
import Derived.Test.YtpddjebdncaceaaGreatB16
import Derived.Test.YtpddjebdncaceaaGreatB18
import Derived.Test.YtpddjebdncaceaaGreatB19
import Derived.Test.YtpddjebdncaceaaGreatB20
import Derived.Test.YtpddjebdncaceaaGreatB21
namespace Go.Proofs.YtpddjebdncaceaaGreat
open Go.RowKit
theorem OnlyIn.but {F : List Nat} {a b : World} (h : OnlyIn F a b) : But F a b := ⟨h.os, h.tape, h.output, by rw [h.size]; exact Nat.le_refl _, fun i _ hi => h.block i hi⟩
theorem toO_made (t : Tm) (w : World) (v : Value) (h0 : sizes t.kids ≤ 1048576) (h : TmIn w 0 t v) :
  Calls Tryz.prog 10 #[v] w fun e w' => Below w.heap.size w w' ∧ ∃ a c F, e = .returned (.agg #[.int .i64 t.kind, .int .i64 t.num, .slice a t.kids.length c]) ∧ SlOwn w' t.kids (.slice a t.kids.length c) F ∧ F.Nodup ∧ ∀ g ∈ F, w.heap.size ≤ g ∧ g < w'.heap.size :=
 (toO_any t w v h0 h).mono fun e w' h => by
  obtain ⟨hb, v, rfl, s, F, rfl, hs, hn, hF⟩ := h
  obtain ⟨a, c, rfl⟩ := hs.form
  exact ⟨hb, a, c, F, rfl, hs, hn, hF⟩
theorem hold1T {w w1 w' : World} {g : Nat} {k n : Int} {s : Value} (h : Below w.heap.size w w1 ∧ (g < w1.heap.size ∧ w1.cell? ⟨g, 0, none⟩ = some (.int .i64 k) ∧ w1.cell? ⟨g, 1, none⟩ = some (.int .i64 n) ∧ w1.cell? ⟨g, 2, none⟩ = some s)) (hb : Below w1.heap.size w1 w') :
  Below w.heap.size w w' ∧ (g < w'.heap.size ∧ w'.cell? ⟨g, 0, none⟩ = some (.int .i64 k) ∧ w'.cell? ⟨g, 1, none⟩ = some (.int .i64 n) ∧ w'.cell? ⟨g, 2, none⟩ = some s) :=
 ⟨bAfter h.1 hb, BoxAt.below h.2 hb⟩
end Go.Proofs.YtpddjebdncaceaaGreat
