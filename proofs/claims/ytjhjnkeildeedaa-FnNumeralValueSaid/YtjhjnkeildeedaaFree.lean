/-
  impl.eachFree; impl.CountVar, FreeAt, MaxFree answer as 'countOf', 'maxFreeOf' say.
-/
import Derived.Test.YtjhjnkeildeedaaTrav
import Derived.Test.YtjhjnkeildeedaaImplB
namespace Go.Proofs.Ytjhjnkeildeedaa
open Go.RowKit

theorem Step.setCell {M M' : Nat → Prop} {a b : World} (h : Step M a b M') {p : Addr} (hp : M' p.block) (u : Value) : Step M a (b.setCell p u) M' :=
  h.trans ⟨rfl, rfl, rfl, by simp [World.setCell], fun i _ hn => Below.heap_setCell b p u i (fun e => hn (by rw [e]; exact hp)), fun _ _ h => h, fun i hi => by simpa [World.setCell] using h.lt i hi⟩

/-- What is asked of a use of free variables. -/
def UseFree {S : Type} (w0 : World) (M0 : Nat → Prop) (St : S → (Nat → Prop) → World → Prop) (f : FuncId) (cs : Array Value) (g : S → Int → S) : Prop :=
  ∀ (w : World) (s : S) (M : Nat → Prop) (i : Int), Step M0 w0 w M → St s M w → 0 ≤ i → i ≤ 20 → Calls Try.prog f (#[.int .i64 i] ++ cs) w fun e w' => e = .returned (.tuple #[]) ∧ ∃ M', Step M w w' M' ∧ St (g s i) M' w'

theorem root_num {t : Tm} (h : t.rootOk) : 0 ≤ t.num ∧ t.num ≤ 20 := by
  have h1 := h.2
  unfold mostN at h1
  split at h1
  · omega
  · split at h1 <;> omega

theorem box3_below {w w' : World} {g : Nat} {k n : Int} {v : Value} (h : g < w.heap.size ∧ w.cell? ⟨g, 0, none⟩ = some (.int .i64 k) ∧ w.cell? ⟨g, 1, none⟩ = some (.int .i64 n) ∧ w.cell? ⟨g, 2, none⟩ = some v) (hb : Below w.heap.size w w') :
    g < w'.heap.size ∧ w'.cell? ⟨g, 0, none⟩ = some (.int .i64 k) ∧ w'.cell? ⟨g, 1, none⟩ = some (.int .i64 n) ∧ w'.cell? ⟨g, 2, none⟩ = some v :=
  ⟨Nat.lt_of_lt_of_le h.1 hb.size, (hb.cell (p := ⟨g, 0, none⟩) h.1).trans h.2.1, (hb.cell (p := ⟨g, 1, none⟩) h.1).trans h.2.2.1, (hb.cell (p := ⟨g, 2, none⟩) h.1).trans h.2.2.2⟩
theorem box3_step {w w' : World} {M M' : Nat → Prop} {g : Nat} {k n : Int} {v : Value} (h : g < w.heap.size ∧ w.cell? ⟨g, 0, none⟩ = some (.int .i64 k) ∧ w.cell? ⟨g, 1, none⟩ = some (.int .i64 n) ∧ w.cell? ⟨g, 2, none⟩ = some v) (hb : Step M w w' M') (hn : ¬ M g) :
    g < w'.heap.size ∧ w'.cell? ⟨g, 0, none⟩ = some (.int .i64 k) ∧ w'.cell? ⟨g, 1, none⟩ = some (.int .i64 n) ∧ w'.cell? ⟨g, 2, none⟩ = some v :=
  ⟨Nat.lt_of_lt_of_le h.1 hb.size, (hb.cell (p := ⟨g, 0, none⟩) h.1 hn).trans h.2.1, (hb.cell (p := ⟨g, 1, none⟩) h.1 hn).trans h.2.2.1, (hb.cell (p := ⟨g, 2, none⟩) h.1 hn).trans h.2.2.2⟩

/-- The count in its variable. -/
def IntAt (c : Nat) (s : Int) (M : Nat → Prop) (w : World) : Prop := w.heap[c]? = some (.cells #[.int .i64 s] 3 (0, 0)) ∧ M = fun i => i = c
theorem IntAt.below {c : Nat} : ∀ (s : Int) (M : Nat → Prop) (w w' : World), IntAt c s M w → Below w.heap.size w w' → IntAt c s M w' := fun _ _ _ _ h hb => ⟨(hb.block c (block_of_cells h.1).1).trans h.1, h.2⟩

end Go.Proofs.Ytjhjnkeildeedaa
