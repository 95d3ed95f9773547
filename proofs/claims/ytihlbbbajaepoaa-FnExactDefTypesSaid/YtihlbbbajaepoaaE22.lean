/-
  LawL.
-/
import Derived.Test.YtihlbbbajaepoaaE14
import Derived.Test.YtihlbbbajaepoaaE16
import Derived.Test.YtihlbbbajaepoaaE21
namespace Go.Proofs.Ytihlbbbajaepoaa
open Go.RowKit
theorem OnlyIn.but {F : List Nat} {a b : World} (h : OnlyIn F a b) : But F a b := ⟨h.os, h.tape, h.output, by rw [h.size]; exact Nat.le_refl _, fun i _ hi => h.block i hi⟩
theorem markL_but (l : List Tm) (F : List Nat) (k : Int) (w : World) (v : Value) (h0 : 0 ≤ k) (h1 : k + 2 * sizes l ≤ 4611686018427387904) (hn : F.Nodup) (h : SlOwn w l v F) :
  Calls Try.prog 28 #[v, .int .i64 k] w (MarkTPost F l v k w) :=
 (markS_any l F k w v h0 h1 hn h).mono fun _ _ h => ⟨h.1, h.2.1, h.2.2.but⟩
theorem heldL_any (l : List Tm) (B : Nat) (k : Int) (w : World) (v : Value) (h0 : 0 ≤ k) (h1 : k + 2 * sizes l ≤ 4611686018427387904) (h : SlIn w B (markL l k) v) :
  Calls Try.prog 29 #[v, .int .i64 k] w (IntPost' w (k + 2 * sizes l)) :=
 (heldS_any l B k w v h0 h1 h).mono fun _ _ h => ⟨h.1, by rw [← h.2]; exact Below.refl _ _⟩
theorem toO_made (t : Tm) (w : World) (v : Value) (h0 : sizes t.kids ≤ 1048576) (h : TmIn w 0 t v) :
  Calls Try.prog 10 #[v] w fun e w' => Below w.heap.size w w' ∧ ∃ a c F, e = .returned (.agg #[.int .i64 t.kind, .int .i64 t.num, .slice a t.kids.length c]) ∧ SlOwn w' t.kids (.slice a t.kids.length c) F ∧ F.Nodup ∧ ∀ g ∈ F, w.heap.size ≤ g ∧ g < w'.heap.size :=
 (toO_any t w v h0 h).mono fun e w' h => by
  obtain ⟨hb, v, rfl, s, F, rfl, hs, hn, hF⟩ := h
  obtain ⟨a, c, rfl⟩ := hs.form
  exact ⟨hb, a, c, F, rfl, hs, hn, hF⟩
end Go.Proofs.Ytihlbbbajaepoaa
