/-
  LawL.
-/
import Derived.Test.YtleijaegpfjnpaaGreatC18
import Derived.Test.YtleijaegpfjnpaaGreatC23
import Derived.Test.YtleijaegpfjnpaaGreatC24
namespace Go.Proofs.YtleijaegpfjnpaaGreat
open Go.RowKit
theorem toO_made (t : Tm) (w : World) (v : Value) (h0 : sizes t.kids ≤ 1048576) (h : TmIn w 0 t v) :
  Calls Tryz.prog 6 #[v] w fun e w' => Below w.heap.size w w' ∧ ∃ a c F, e = .returned (.agg #[.int .i64 t.kind, .int .i64 t.num, .slice a t.kids.length c]) ∧ SlOwn w' t.kids (.slice a t.kids.length c) F ∧ F.Nodup ∧ ∀ g ∈ F, w.heap.size ≤ g ∧ g < w'.heap.size :=
 (toO_any t w v h0 h).mono fun e w' h => by
  obtain ⟨hb, v, rfl, s, F, rfl, hs, hn, hF⟩ := h
  obtain ⟨a, c, rfl⟩ := hs.form
  exact ⟨hb, a, c, F, rfl, hs, hn, hF⟩
theorem ReplPost.law {w w' : World} {P : Prop} {T : Tm} {e : Ending} (h : ReplPost w P T e w') : Below w.heap.size w w' ∧ ∃ a c F, e = .returned (.tuple #[.agg #[.int .i64 (orZero P T).kind, .int .i64 (orZero P T).num, .slice a (orZero P T).kids.length c], .bool (tr P)]) ∧ SlOwn w' (orZero P T).kids (.slice a (orZero P T).kids.length c) F ∧ F.Nodup ∧ ∀ g ∈ F, w.heap.size ≤ g ∧ g < w'.heap.size := by
 obtain ⟨hb, v, rfl, s, F, rfl, hs, hn, hF⟩ := h
 obtain ⟨a, c, rfl⟩ := hs.form
 exact ⟨hb, a, c, F, rfl, hs, hn, hF⟩
theorem orZero_szs {P : Prop} {T : Tm} (h : P → T.Valid) : sizes (orZero P T).kids ≤ 400 := by
 unfold orZero
 split
 ·rename_i hp
  have := (valid_bounds (h hp)).1
  omega
 ·simp [zeroT, Tm.kids, sizes]
theorem tl_sl3 {w : World} {B gz : Nat} {l : List Tm} {v x y z : Value} (h : SlIn w B l v) (hg : gz < B) : SlIn (((w.setCell ⟨gz, 0, none⟩ x).setCell ⟨gz, 1, none⟩ y).setCell ⟨gz, 2, none⟩ z) B l v :=
 ((h.setCell (p := ⟨gz, 0, none⟩) hg _).setCell (p := ⟨gz, 1, none⟩) hg _).setCell (p := ⟨gz, 2, none⟩) hg _
end Go.Proofs.YtleijaegpfjnpaaGreat
