/-
  Free.
-/
import Derived.Test.YteeafpnjpcgfaaaGreatB06
import Derived.Test.YteeafpnjpcgfaaaGreatB11
namespace Go.Proofs.YteeafpnjpcgfaaaGreat
open Go.RowKit
theorem Step.setCell {M M' : Nat → Prop} {a b : World} (h : Step M a b M') {p : Addr} (hp : M' p.block) (u : Value) : Step M a (b.setCell p u) M' :=
 h.trans ⟨rfl, rfl, rfl, by simp [World.setCell], fun i _ hn => Below.heap_setCell b p u i (fun e => hn (by rw [e]; exact hp)), fun _ _ h => h, fun i hi => by simpa [World.setCell] using h.lt i hi⟩
theorem root_num {t : Tm} (h : t.rootOk) : 0 ≤ t.num ∧ t.num ≤ 20 := by
 have h1 := h.2
 unfold mostN at h1
 split at h1
 ·omega
 ·split at h1 <;> omega
theorem box3_below {w w' : World} {g : Nat} {k n : Int} {v : Value} (h : g < w.heap.size ∧ w.cell? ⟨g, 0, none⟩ = some (.int .i64 k) ∧ w.cell? ⟨g, 1, none⟩ = some (.int .i64 n) ∧ w.cell? ⟨g, 2, none⟩ = some v) (hb : Below w.heap.size w w') :
  g < w'.heap.size ∧ w'.cell? ⟨g, 0, none⟩ = some (.int .i64 k) ∧ w'.cell? ⟨g, 1, none⟩ = some (.int .i64 n) ∧ w'.cell? ⟨g, 2, none⟩ = some v :=
 ⟨Nat.lt_of_lt_of_le h.1 hb.size, (hb.cell (p := ⟨g, 0, none⟩) h.1).trans h.2.1, (hb.cell (p := ⟨g, 1, none⟩) h.1).trans h.2.2.1, (hb.cell (p := ⟨g, 2, none⟩) h.1).trans h.2.2.2⟩
theorem box3_step {w w' : World} {M M' : Nat → Prop} {g : Nat} {k n : Int} {v : Value} (h : g < w.heap.size ∧ w.cell? ⟨g, 0, none⟩ = some (.int .i64 k) ∧ w.cell? ⟨g, 1, none⟩ = some (.int .i64 n) ∧ w.cell? ⟨g, 2, none⟩ = some v) (hb : Step M w w' M') (hn : ¬ M g) :
  g < w'.heap.size ∧ w'.cell? ⟨g, 0, none⟩ = some (.int .i64 k) ∧ w'.cell? ⟨g, 1, none⟩ = some (.int .i64 n) ∧ w'.cell? ⟨g, 2, none⟩ = some v :=
 ⟨Nat.lt_of_lt_of_le h.1 hb.size, (hb.cell (p := ⟨g, 0, none⟩) h.1 hn).trans h.2.1, (hb.cell (p := ⟨g, 1, none⟩) h.1 hn).trans h.2.2.1, (hb.cell (p := ⟨g, 2, none⟩) h.1 hn).trans h.2.2.2⟩
end Go.Proofs.YteeafpnjpcgfaaaGreat
