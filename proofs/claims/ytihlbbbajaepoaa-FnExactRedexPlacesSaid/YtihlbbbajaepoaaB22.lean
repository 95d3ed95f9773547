/-
  LawL.
-/
import Derived.Test.YtihlbbbajaepoaaB15
import Derived.Test.YtihlbbbajaepoaaB17
import Derived.Test.YtihlbbbajaepoaaB21
namespace Go.Proofs.Ytihlbbbajaepoaa
open Go.RowKit
theorem toO_made (t : Tm) (w : World) (v : Value) (h0 : sizes t.kids ≤ 1048576) (h : TmIn w 0 t v) :
  Calls Try.prog 10 #[v] w fun e w' => Below w.heap.size w w' ∧ ∃ a c F, e = .returned (.agg #[.int .i64 t.kind, .int .i64 t.num, .slice a t.kids.length c]) ∧ SlOwn w' t.kids (.slice a t.kids.length c) F ∧ F.Nodup ∧ ∀ g ∈ F, w.heap.size ≤ g ∧ g < w'.heap.size :=
 (toO_any t w v h0 h).mono fun e w' h => by
  obtain ⟨hb, v, rfl, s, F, rfl, hs, hn, hF⟩ := h
  obtain ⟨a, c, rfl⟩ := hs.form
  exact ⟨hb, a, c, F, rfl, hs, hn, hF⟩
end Go.Proofs.Ytihlbbbajaepoaa
