/-
  What the walks of the exact laws over lists of terms share.
-/
import Derived.Test.YteeafpnjpcgfaaaGreatLawT
import Derived.Test.YteeafpnjpcgfaaaGreatClone
import Derived.Test.YteeafpnjpcgfaaaGreatRepl
namespace Go.Proofs.YteeafpnjpcgfaaaGreat
open Go.RowKit

theorem OnlyIn.but {F : List Nat} {a b : World} (h : OnlyIn F a b) : But F a b := ⟨h.os, h.tape, h.output, by rw [h.size]; exact Nat.le_refl _, fun i _ hi => h.block i hi⟩
theorem markL_but (l : List Tm) (F : List Nat) (k : Int) (w : World) (v : Value) (h0 : 0 ≤ k) (h1 : k + 2 * sizes l ≤ 4611686018427387904) (hn : F.Nodup) (h : SlOwn w l v F) :
    Calls Tryz.prog 27 #[v, .int .i64 k] w (MarkTPost F l v k w) :=
  (markS_any l F k w v h0 h1 hn h).mono fun _ _ h => ⟨h.1, h.2.1, h.2.2.but⟩
theorem heldL_any (l : List Tm) (B : Nat) (k : Int) (w : World) (v : Value) (h0 : 0 ≤ k) (h1 : k + 2 * sizes l ≤ 4611686018427387904) (h : SlIn w B (markL l k) v) :
    Calls Tryz.prog 28 #[v, .int .i64 k] w (IntPost' w (k + 2 * sizes l)) :=
  (heldS_any l B k w v h0 h1 h).mono fun _ _ h => ⟨h.1, by rw [← h.2]; exact Below.refl _ _⟩
theorem toSo_made (l : List Tm) (w : World) (v : Value) (h0 : sizes l ≤ 1048576) (h : SlIn w 0 l v) :
    Calls Tryz.prog 32 #[v] w fun e w' => Below w.heap.size w w' ∧ ∃ a c F, e = .returned (.slice a l.length c) ∧ SlOwn w' l (.slice a l.length c) F ∧ F.Nodup ∧ ∀ g ∈ F, w.heap.size ≤ g ∧ g < w'.heap.size :=
  (toSo_any l w v h0 h).mono fun e w' h => by
    obtain ⟨v, F, rfl, hs, hn, hF, hb⟩ := h
    obtain ⟨a, c, rfl⟩ := hs.form
    exact ⟨hb, a, c, F, rfl, hs, hn, hF⟩
theorem toO_made (t : Tm) (w : World) (v : Value) (h0 : sizes t.kids ≤ 1048576) (h : TmIn w 0 t v) :
    Calls Tryz.prog 10 #[v] w fun e w' => Below w.heap.size w w' ∧ ∃ a c F, e = .returned (.agg #[.int .i64 t.kind, .int .i64 t.num, .slice a t.kids.length c]) ∧ SlOwn w' t.kids (.slice a t.kids.length c) F ∧ F.Nodup ∧ ∀ g ∈ F, w.heap.size ≤ g ∧ g < w'.heap.size :=
  (toO_any t w v h0 h).mono fun e w' h => by
    obtain ⟨hb, v, rfl, s, F, rfl, hs, hn, hF⟩ := h
    obtain ⟨a, c, rfl⟩ := hs.form
    exact ⟨hb, a, c, F, rfl, hs, hn, hF⟩
theorem ReplPost.law {w w' : World} {P : Prop} {T : Tm} {e : Ending} (h : ReplPost w P T e w') : Below w.heap.size w w' ∧ ∃ a c F, e = .returned (.tuple #[.agg #[.int .i64 (orZero P T).kind, .int .i64 (orZero P T).num, .slice a (orZero P T).kids.length c], .bool (tr P)]) ∧ SlOwn w' (orZero P T).kids (.slice a (orZero P T).kids.length c) F ∧ F.Nodup ∧ ∀ g ∈ F, w.heap.size ≤ g ∧ g < w'.heap.size := by
  obtain ⟨hb, v, rfl, s, F, rfl, hs, hn, hF⟩ := h
  obtain ⟨a, c, rfl⟩ := hs.form
  exact ⟨hb, a, c, F, rfl, hs, hn, hF⟩
theorem orZero_szs {P : Prop} {T : Tm} (h : P → T.Valid) : sizes (orZero P T).kids ≤ 400 := by
  unfold orZero
  split
  · rename_i hp
    have := (valid_bounds (h hp)).1
    omega
  · simp [zeroT, Tm.kids, sizes]

theorem hold1T {w w1 w' : World} {g : Nat} {k n : Int} {s : Value} (h : Below w.heap.size w w1 ∧ (g < w1.heap.size ∧ w1.cell? ⟨g, 0, none⟩ = some (.int .i64 k) ∧ w1.cell? ⟨g, 1, none⟩ = some (.int .i64 n) ∧ w1.cell? ⟨g, 2, none⟩ = some s)) (hb : Below w1.heap.size w1 w') :
    Below w.heap.size w w' ∧ (g < w'.heap.size ∧ w'.cell? ⟨g, 0, none⟩ = some (.int .i64 k) ∧ w'.cell? ⟨g, 1, none⟩ = some (.int .i64 n) ∧ w'.cell? ⟨g, 2, none⟩ = some s) :=
  ⟨bAfter h.1 hb, BoxAt.below h.2 hb⟩
theorem hold1T_set3 {w w1 : World} {g gz : Nat} {k n : Int} {s x y z : Value} (h : Below w.heap.size w w1 ∧ (g < w1.heap.size ∧ w1.cell? ⟨g, 0, none⟩ = some (.int .i64 k) ∧ w1.cell? ⟨g, 1, none⟩ = some (.int .i64 n) ∧ w1.cell? ⟨g, 2, none⟩ = some s)) (h1 : w.heap.size ≤ gz) (h2 : g < w.heap.size) :
    Below w.heap.size w (((w1.setCell ⟨gz, 0, none⟩ x).setCell ⟨gz, 1, none⟩ y).setCell ⟨gz, 2, none⟩ z) ∧ BoxAt g k n s (((w1.setCell ⟨gz, 0, none⟩ x).setCell ⟨gz, 1, none⟩ y).setCell ⟨gz, 2, none⟩ z) := by
  have a : BoxAt g k n s w1 := h.2
  have e : gz ≠ g := by omega
  exact ⟨bSet3 h.1 h1 _ _ _ _ _ _, ((a.set1 e).set1 e).set1 e⟩
theorem tl_sl3 {w : World} {B gz : Nat} {l : List Tm} {v x y z : Value} (h : SlIn w B l v) (hg : gz < B) : SlIn (((w.setCell ⟨gz, 0, none⟩ x).setCell ⟨gz, 1, none⟩ y).setCell ⟨gz, 2, none⟩ z) B l v :=
  ((h.setCell (p := ⟨gz, 0, none⟩) hg _).setCell (p := ⟨gz, 1, none⟩) hg _).setCell (p := ⟨gz, 2, none⟩) hg _

end Go.Proofs.YteeafpnjpcgfaaaGreat
