/-
  NfA.
-/
import Derived.Test.YtpddjebdncaceaaF01
import Derived.Test.YtpddjebdncaceaaF10
import Derived.BigQuiet
import Derived.Deep.QuietTactic
import Derived.Laws.EntriesVeiled
import Derived.Laws.MakeOwn
import Derived.ProofKit
import Derived.StillTailTactics
import Derived.Test.YtpddjebdncaceaaProg
import Derived.WalkSpells
namespace Go.Proofs.Ytpddjebdncaceaa
open Go.RowKit
set_option linter.unusedVariables false
set_option linter.unusedSimpArgs false
def nfA (f : Int) : Int := if f = 1 ∨ f = 2 ∨ f = 4 then 2 else if f = 3 ∨ f = 5 ∨ f = 6 then 1 else -1
def nfT (f : Int) : ByteArray :=
 if f = 1 then { data := #[91, 78, 93, 91, 78, 93, 60, 91, 78, 93, 78, 44, 35, 49, 44, 91, 78, 93, 91, 78, 93, 43, 35, 48, 44, 35, 48, 62] }
 else if f = 2 then { data := #[91, 78, 93, 91, 78, 93, 60, 91, 78, 93, 78, 44, 48, 44, 91, 78, 93, 91, 78, 93, 40, 40, 91, 78, 93, 91, 78, 93, 60, 91, 78, 93, 78, 44, 35, 49, 44, 91, 78, 93, 91, 78, 93, 43, 35, 48, 44, 35, 48, 62, 32, 35, 50, 41, 32, 35, 48, 41, 44, 35, 49, 62] }
 else if f = 3 then { data := #[91, 78, 93, 60, 91, 78, 93, 78, 44, 48, 44, 91, 78, 93, 91, 78, 93, 35, 49, 44, 35, 48, 62] }
 else if f = 4 then { data := #[91, 78, 93, 91, 78, 93, 60, 91, 78, 93, 78, 44, 35, 49, 44, 91, 78, 93, 91, 78, 93, 40, 91, 78, 93, 60, 91, 78, 93, 78, 44, 48, 44, 91, 78, 93, 91, 78, 93, 35, 49, 44, 35, 48, 62, 32, 35, 48, 41, 44, 35, 48, 62] }
 else if f = 5 then { data := #[91, 78, 93, 60, 91, 78, 93, 78, 44, 43, 48, 44, 91, 78, 93, 91, 78, 93, 48, 44, 35, 48, 62] }
 else if f = 6 then { data := #[91, 78, 93, 60, 91, 78, 93, 78, 44, 48, 44, 91, 78, 93, 91, 78, 93, 43, 43, 35, 48, 44, 35, 48, 62] }
 else if f = 7 then { data := #[91, 40, 78, 62, 78, 41, 93, 91, 78, 93, 40, 35, 49, 32, 40, 35, 49, 32, 35, 48, 41, 41] }
 else { data := #[] }
def nfF (f : Int) : Value :=
 if f = 1 then .func (.func 20) #[] #[]
 else if f = 2 then .func (.func 21) #[] #[]
 else if f = 3 then .func (.func 23) #[] #[]
 else if f = 4 then .func (.func 24) #[] #[]
 else if f = 5 then .func (.func 25) #[] #[]
 else .func (.func 26) #[] #[]
def FBox (g : Nat) (s : ByteArray) (n : Int) (v : Value) (w : World) : Prop := w.heap[g]? = some (.cells #[.string s, .int .i64 n, v] 35 (0, 0))
theorem FBox.facts {g : Nat} {n : Int} {s : ByteArray} {v : Value} {w : World} (h : FBox g s n v w) : g < w.heap.size ∧ w.cell? ⟨g, 0, none⟩ = some (.string s) ∧ w.cell? ⟨g, 1, none⟩ = some (.int .i64 n) ∧ w.cell? ⟨g, 2, none⟩ = some v ∧ ∀ i, w.frozen? ⟨g, i, none⟩ = false := by
 obtain ⟨h1, h2, h3⟩ := block_of_cells h
 exact ⟨h1, h2 0, h2 1, h2 2, h3⟩
theorem FBox.new (w : World) (s : ByteArray) (n : Int) (v : Value) : FBox w.heap.size s n v (w.alloc (.cells #[.string s, .int .i64 n, v] 35)) := heap_new _ _
theorem FBox.below {g : Nat} {n : Int} {s : ByteArray} {v : Value} {w w' : World} (h : FBox g s n v w) (hb : Below w.heap.size w w') : FBox g s n v w' := (hb.block g h.facts.1).trans h
def NfVal (f : Int) (v : Value) (w : World) : Prop :=
 (nfA f = -1 → v = .nilFunc) ∧ (nfA f = 2 → ∃ g, v = .func (.func 36) #[] #[.pointer (some ⟨g, 0, none⟩)] ∧ g < w.heap.size ∧ w.cell? ⟨g, 0, none⟩ = some (nfF f)) ∧ (nfA f = 1 → ∃ g, v = .func (.func 37) #[] #[.pointer (some ⟨g, 0, none⟩)] ∧ g < w.heap.size ∧ w.cell? ⟨g, 0, none⟩ = some (nfF f))
def NfPost (f : Int) (w : World) (e : Ending) (w' : World) : Prop := Below w.heap.size w w' ∧ ∃ v, e = .returned (.agg #[.string (nfT f), .int .i64 (nfA f), v]) ∧ NfVal f v w'
def OfPost (k : Nat) (n : Int) (s : ByteArray) (F : Value) (w : World) (e : Ending) (w' : World) : Prop := Below w.heap.size w w' ∧ ∃ g, e = .returned (.agg #[.string s, .int .i64 n, .func (.func k) #[] #[.pointer (some ⟨g, 0, none⟩)]]) ∧ w.heap.size ≤ g ∧ g < w'.heap.size ∧ w'.cell? ⟨g, 0, none⟩ = some F
theorem nf_cell {g q gz : Nat} {x y0 y1 y2 : Value} {A : World} (h : g < A.heap.size ∧ A.cell? ⟨g, q, none⟩ = some x) (hn : g ≠ gz) : g < (((A.setCell ⟨gz, 0, none⟩ y0).setCell ⟨gz, 1, none⟩ y1).setCell ⟨gz, 2, none⟩ y2).heap.size ∧ (((A.setCell ⟨gz, 0, none⟩ y0).setCell ⟨gz, 1, none⟩ y1).setCell ⟨gz, 2, none⟩ y2).cell? ⟨g, q, none⟩ = some x := by
 refine ⟨by simpa [World.setCell] using h.1, ?_⟩
 rw [World.cell?_of_block (a := ⟨g, q, none⟩) (Below.heap_setCell _ _ _ g (by show g ≠ gz; exact hn)), World.cell?_of_block (a := ⟨g, q, none⟩) (Below.heap_setCell _ _ _ g (by show g ≠ gz; exact hn)), World.cell?_of_block (a := ⟨g, q, none⟩) (Below.heap_setCell _ _ _ g (by show g ≠ gz; exact hn))]
 exact h.2
set_option maxRecDepth 100000 in
theorem ofTwo_any (s : ByteArray) (k : Nat) (w : World) : Calls Try.prog 19 #[.string s, .func (.func k) #[] #[]] w (OfPost 36 2 s (.func (.func k) #[] #[]) w) := by
 have HP : Hid (∀ w' g, Below w.heap.size w w' → w.heap.size ≤ g → g < w'.heap.size → w'.cell? ⟨g, 0, none⟩ = some (.func (.func k) #[] #[]) → OfPost 36 2 s (.func (.func k) #[] #[]) w (.returned (.agg #[.string s, .int .i64 2, .func (.func 36) #[] #[.pointer (some ⟨g, 0, none⟩)]])) w') := tuck fun w' g h1 h0 h2 h3 => ⟨h1, g, rfl, h0, h2, h3⟩
 generalize OfPost 36 2 s (.func (.func k) #[] #[]) w = post at *
 go_enter Try.func19, Try.ntmps19
 have hz1 : (w.alloc (.cells #[.func (.func k) #[] #[]] 45)).heap.size = w.heap.size + 1 := by simp
 have FB := FBox.new (w.alloc (.cells #[.func (.func k) #[] #[]] 45)) s 2 .nilFunc
 rw [hz1] at FB
 obtain ⟨z, c0, c1, c2, cf⟩ := FB.facts
 go_wp2_with fail
 refine bodyPost_ret (v := .agg #[.string s, .int .i64 2, .func (.func 36) #[] #[.pointer (some ⟨w.heap.size, 0, none⟩)]]) (by simp [results, Try.results19, go_sem]) rfl (HP.out _ w.heap.size (below2 _ _ _) (Nat.le_refl _) (by simp; omega) ?_)
 exact ((below1 _ _).cell (p := ⟨w.heap.size, 0, none⟩) (by simp)).trans (by rw [World.cell?_alloc_new]; rfl)
set_option maxRecDepth 100000 in
theorem ofOne_any (s : ByteArray) (k : Nat) (w : World) : Calls Try.prog 22 #[.string s, .func (.func k) #[] #[]] w (OfPost 37 1 s (.func (.func k) #[] #[]) w) := by
 have HP : Hid (∀ w' g, Below w.heap.size w w' → w.heap.size ≤ g → g < w'.heap.size → w'.cell? ⟨g, 0, none⟩ = some (.func (.func k) #[] #[]) → OfPost 37 1 s (.func (.func k) #[] #[]) w (.returned (.agg #[.string s, .int .i64 1, .func (.func 37) #[] #[.pointer (some ⟨g, 0, none⟩)]])) w') := tuck fun w' g h1 h0 h2 h3 => ⟨h1, g, rfl, h0, h2, h3⟩
 generalize OfPost 37 1 s (.func (.func k) #[] #[]) w = post at *
 go_enter Try.func22, Try.ntmps22
 have hz1 : (w.alloc (.cells #[.func (.func k) #[] #[]] 47)).heap.size = w.heap.size + 1 := by simp
 have FB := FBox.new (w.alloc (.cells #[.func (.func k) #[] #[]] 47)) s 1 .nilFunc
 rw [hz1] at FB
 obtain ⟨z, c0, c1, c2, cf⟩ := FB.facts
 go_wp2_with fail
 refine bodyPost_ret (v := .agg #[.string s, .int .i64 1, .func (.func 37) #[] #[.pointer (some ⟨w.heap.size, 0, none⟩)]]) (by simp [results, Try.results22, go_sem]) rfl (HP.out _ w.heap.size (below2 _ _ _) (Nat.le_refl _) (by simp; omega) ?_)
 exact ((below1 _ _).cell (p := ⟨w.heap.size, 0, none⟩) (by simp)).trans (by rw [World.cell?_alloc_new]; rfl)
set_option maxRecDepth 100000 in
set_option maxHeartbeats 3200000 in
theorem numFun_any (f : Int) (w : World) : Calls Try.prog 11 #[.int .i64 f] w (NfPost f w) := by
 have hz : Below w.heap.size w (w.alloc (.cells #[.string { data := #[] }, .int .i64 0, .nilFunc] 35)) := below1 _ _
 by_cases h1 : f = 1
 ·subst h1
  have HP : Hid (∀ v w', Below w.heap.size w w' → NfVal 1 v w' → NfPost 1 w (.returned (.agg #[.string (nfT 1), .int .i64 2, v])) w') := tuck fun v w' h1 h2 => ⟨h1, v, rfl, h2⟩
  have HT : Hid (nfT 1 = { data := #[91, 78, 93, 91, 78, 93, 60, 91, 78, 93, 78, 44, 35, 49, 44, 91, 78, 93, 91, 78, 93, 43, 35, 48, 44, 35, 48, 62] }) := tuck rfl
  have HO : Hid (∀ W, Calls Try.prog 19 #[.string { data := #[91, 78, 93, 91, 78, 93, 60, 91, 78, 93, 78, 44, 35, 49, 44, 91, 78, 93, 91, 78, 93, 43, 35, 48, 44, 35, 48, 62] }, .func (.func 20) #[] #[]] W (OfPost 36 2 (nfT 1) (nfF 1) W)) := tuck fun W => ofTwo_any _ _ W
  generalize NfPost 1 w = post at *
  go_enter Try.func11, Try.ntmps11
  go_wp2_with fail
  refine (HO.out _).mono ?_
  rintro e w1 ⟨hb, g, rfl, hg0, hg, hc⟩
  have HB := tuck (bAfter hz hb)
  have hzz : (w.alloc (.cells #[.string { data := #[] }, .int .i64 0, .nilFunc] 35)).heap.size = w.heap.size + 1 := by simp
  have HNE : Hid (g ≠ w.heap.size) := tuck (by omega)
  have HC := tuck (And.intro hg hc)
  obtain ⟨z, c0, c1, c2, cf⟩ := ((FBox.new w { data := #[] } 0 .nilFunc).below hb).facts
  clear hg0 hg hc hb hzz
  rw [HT.out] at HP ⊢
  go_wp2_with fail
  have HNC := nf_cell (gz := w.heap.size) (y0 := .string { data := #[91, 78, 93, 91, 78, 93, 60, 91, 78, 93, 78, 44, 35, 49, 44, 91, 78, 93, 91, 78, 93, 43, 35, 48, 44, 35, 48, 62] }) (y1 := .int .i64 2) (y2 := .func (.func 36) #[] #[.pointer (some ⟨g, 0, none⟩)]) HC.out HNE.out
  refine bodyPost_ret (v := .agg #[.string { data := #[91, 78, 93, 91, 78, 93, 60, 91, 78, 93, 78, 44, 35, 49, 44, 91, 78, 93, 91, 78, 93, 43, 35, 48, 44, 35, 48, 62] }, .int .i64 2, .func (.func 36) #[] #[.pointer (some ⟨g, 0, none⟩)]]) (by simp [results, Try.results11, go_sem, *]) rfl (HP.out _ _ (bSet3 HB.out (Nat.le_refl _) _ _ _ _ _ _) ⟨fun h => absurd h (by decide), fun _ => ⟨g, rfl, HNC⟩, fun h => absurd h (by decide)⟩)
 by_cases h2 : f = 2
 ·subst h2
  have HP : Hid (∀ v w', Below w.heap.size w w' → NfVal 2 v w' → NfPost 2 w (.returned (.agg #[.string (nfT 2), .int .i64 2, v])) w') := tuck fun v w' h1 h2 => ⟨h1, v, rfl, h2⟩
  have HT : Hid (nfT 2 = { data := #[91, 78, 93, 91, 78, 93, 60, 91, 78, 93, 78, 44, 48, 44, 91, 78, 93, 91, 78, 93, 40, 40, 91, 78, 93, 91, 78, 93, 60, 91, 78, 93, 78, 44, 35, 49, 44, 91, 78, 93, 91, 78, 93, 43, 35, 48, 44, 35, 48, 62, 32, 35, 50, 41, 32, 35, 48, 41, 44, 35, 49, 62] }) := tuck rfl
  have HO : Hid (∀ W, Calls Try.prog 19 #[.string { data := #[91, 78, 93, 91, 78, 93, 60, 91, 78, 93, 78, 44, 48, 44, 91, 78, 93, 91, 78, 93, 40, 40, 91, 78, 93, 91, 78, 93, 60, 91, 78, 93, 78, 44, 35, 49, 44, 91, 78, 93, 91, 78, 93, 43, 35, 48, 44, 35, 48, 62, 32, 35, 50, 41, 32, 35, 48, 41, 44, 35, 49, 62] }, .func (.func 21) #[] #[]] W (OfPost 36 2 (nfT 2) (nfF 2) W)) := tuck fun W => ofTwo_any _ _ W
  generalize NfPost 2 w = post at *
  go_enter Try.func11, Try.ntmps11
  go_wp2_with fail
  refine (HO.out _).mono ?_
  rintro e w1 ⟨hb, g, rfl, hg0, hg, hc⟩
  have HB := tuck (bAfter hz hb)
  have hzz : (w.alloc (.cells #[.string { data := #[] }, .int .i64 0, .nilFunc] 35)).heap.size = w.heap.size + 1 := by simp
  have HNE : Hid (g ≠ w.heap.size) := tuck (by omega)
  have HC := tuck (And.intro hg hc)
  obtain ⟨z, c0, c1, c2, cf⟩ := ((FBox.new w { data := #[] } 0 .nilFunc).below hb).facts
  clear hg0 hg hc hb hzz
  rw [HT.out] at HP ⊢
  go_wp2_with fail
  have HNC := nf_cell (gz := w.heap.size) (y0 := .string { data := #[91, 78, 93, 91, 78, 93, 60, 91, 78, 93, 78, 44, 48, 44, 91, 78, 93, 91, 78, 93, 40, 40, 91, 78, 93, 91, 78, 93, 60, 91, 78, 93, 78, 44, 35, 49, 44, 91, 78, 93, 91, 78, 93, 43, 35, 48, 44, 35, 48, 62, 32, 35, 50, 41, 32, 35, 48, 41, 44, 35, 49, 62] }) (y1 := .int .i64 2) (y2 := .func (.func 36) #[] #[.pointer (some ⟨g, 0, none⟩)]) HC.out HNE.out
  refine bodyPost_ret (v := .agg #[.string { data := #[91, 78, 93, 91, 78, 93, 60, 91, 78, 93, 78, 44, 48, 44, 91, 78, 93, 91, 78, 93, 40, 40, 91, 78, 93, 91, 78, 93, 60, 91, 78, 93, 78, 44, 35, 49, 44, 91, 78, 93, 91, 78, 93, 43, 35, 48, 44, 35, 48, 62, 32, 35, 50, 41, 32, 35, 48, 41, 44, 35, 49, 62] }, .int .i64 2, .func (.func 36) #[] #[.pointer (some ⟨g, 0, none⟩)]]) (by simp [results, Try.results11, go_sem, *]) rfl (HP.out _ _ (bSet3 HB.out (Nat.le_refl _) _ _ _ _ _ _) ⟨fun h => absurd h (by decide), fun _ => ⟨g, rfl, HNC⟩, fun h => absurd h (by decide)⟩)
 by_cases h3 : f = 3
 ·subst h3
  have HP : Hid (∀ v w', Below w.heap.size w w' → NfVal 3 v w' → NfPost 3 w (.returned (.agg #[.string (nfT 3), .int .i64 1, v])) w') := tuck fun v w' h1 h2 => ⟨h1, v, rfl, h2⟩
  have HT : Hid (nfT 3 = { data := #[91, 78, 93, 60, 91, 78, 93, 78, 44, 48, 44, 91, 78, 93, 91, 78, 93, 35, 49, 44, 35, 48, 62] }) := tuck rfl
  have HO : Hid (∀ W, Calls Try.prog 22 #[.string { data := #[91, 78, 93, 60, 91, 78, 93, 78, 44, 48, 44, 91, 78, 93, 91, 78, 93, 35, 49, 44, 35, 48, 62] }, .func (.func 23) #[] #[]] W (OfPost 37 1 (nfT 3) (nfF 3) W)) := tuck fun W => ofOne_any _ _ W
  generalize NfPost 3 w = post at *
  go_enter Try.func11, Try.ntmps11
  go_wp2_with fail
  refine (HO.out _).mono ?_
  rintro e w1 ⟨hb, g, rfl, hg0, hg, hc⟩
  have HB := tuck (bAfter hz hb)
  have hzz : (w.alloc (.cells #[.string { data := #[] }, .int .i64 0, .nilFunc] 35)).heap.size = w.heap.size + 1 := by simp
  have HNE : Hid (g ≠ w.heap.size) := tuck (by omega)
  have HC := tuck (And.intro hg hc)
  obtain ⟨z, c0, c1, c2, cf⟩ := ((FBox.new w { data := #[] } 0 .nilFunc).below hb).facts
  clear hg0 hg hc hb hzz
  rw [HT.out] at HP ⊢
  go_wp2_with fail
  have HNC := nf_cell (gz := w.heap.size) (y0 := .string { data := #[91, 78, 93, 60, 91, 78, 93, 78, 44, 48, 44, 91, 78, 93, 91, 78, 93, 35, 49, 44, 35, 48, 62] }) (y1 := .int .i64 1) (y2 := .func (.func 37) #[] #[.pointer (some ⟨g, 0, none⟩)]) HC.out HNE.out
  refine bodyPost_ret (v := .agg #[.string { data := #[91, 78, 93, 60, 91, 78, 93, 78, 44, 48, 44, 91, 78, 93, 91, 78, 93, 35, 49, 44, 35, 48, 62] }, .int .i64 1, .func (.func 37) #[] #[.pointer (some ⟨g, 0, none⟩)]]) (by simp [results, Try.results11, go_sem, *]) rfl (HP.out _ _ (bSet3 HB.out (Nat.le_refl _) _ _ _ _ _ _) ⟨fun h => absurd h (by decide), fun h => absurd h (by decide), fun _ => ⟨g, rfl, HNC⟩⟩)
 by_cases h4 : f = 4
 ·subst h4
  have HP : Hid (∀ v w', Below w.heap.size w w' → NfVal 4 v w' → NfPost 4 w (.returned (.agg #[.string (nfT 4), .int .i64 2, v])) w') := tuck fun v w' h1 h2 => ⟨h1, v, rfl, h2⟩
  have HT : Hid (nfT 4 = { data := #[91, 78, 93, 91, 78, 93, 60, 91, 78, 93, 78, 44, 35, 49, 44, 91, 78, 93, 91, 78, 93, 40, 91, 78, 93, 60, 91, 78, 93, 78, 44, 48, 44, 91, 78, 93, 91, 78, 93, 35, 49, 44, 35, 48, 62, 32, 35, 48, 41, 44, 35, 48, 62] }) := tuck rfl
  have HO : Hid (∀ W, Calls Try.prog 19 #[.string { data := #[91, 78, 93, 91, 78, 93, 60, 91, 78, 93, 78, 44, 35, 49, 44, 91, 78, 93, 91, 78, 93, 40, 91, 78, 93, 60, 91, 78, 93, 78, 44, 48, 44, 91, 78, 93, 91, 78, 93, 35, 49, 44, 35, 48, 62, 32, 35, 48, 41, 44, 35, 48, 62] }, .func (.func 24) #[] #[]] W (OfPost 36 2 (nfT 4) (nfF 4) W)) := tuck fun W => ofTwo_any _ _ W
  generalize NfPost 4 w = post at *
  go_enter Try.func11, Try.ntmps11
  go_wp2_with fail
  refine (HO.out _).mono ?_
  rintro e w1 ⟨hb, g, rfl, hg0, hg, hc⟩
  have HB := tuck (bAfter hz hb)
  have hzz : (w.alloc (.cells #[.string { data := #[] }, .int .i64 0, .nilFunc] 35)).heap.size = w.heap.size + 1 := by simp
  have HNE : Hid (g ≠ w.heap.size) := tuck (by omega)
  have HC := tuck (And.intro hg hc)
  obtain ⟨z, c0, c1, c2, cf⟩ := ((FBox.new w { data := #[] } 0 .nilFunc).below hb).facts
  clear hg0 hg hc hb hzz
  rw [HT.out] at HP ⊢
  go_wp2_with fail
  have HNC := nf_cell (gz := w.heap.size) (y0 := .string { data := #[91, 78, 93, 91, 78, 93, 60, 91, 78, 93, 78, 44, 35, 49, 44, 91, 78, 93, 91, 78, 93, 40, 91, 78, 93, 60, 91, 78, 93, 78, 44, 48, 44, 91, 78, 93, 91, 78, 93, 35, 49, 44, 35, 48, 62, 32, 35, 48, 41, 44, 35, 48, 62] }) (y1 := .int .i64 2) (y2 := .func (.func 36) #[] #[.pointer (some ⟨g, 0, none⟩)]) HC.out HNE.out
  refine bodyPost_ret (v := .agg #[.string { data := #[91, 78, 93, 91, 78, 93, 60, 91, 78, 93, 78, 44, 35, 49, 44, 91, 78, 93, 91, 78, 93, 40, 91, 78, 93, 60, 91, 78, 93, 78, 44, 48, 44, 91, 78, 93, 91, 78, 93, 35, 49, 44, 35, 48, 62, 32, 35, 48, 41, 44, 35, 48, 62] }, .int .i64 2, .func (.func 36) #[] #[.pointer (some ⟨g, 0, none⟩)]]) (by simp [results, Try.results11, go_sem, *]) rfl (HP.out _ _ (bSet3 HB.out (Nat.le_refl _) _ _ _ _ _ _) ⟨fun h => absurd h (by decide), fun _ => ⟨g, rfl, HNC⟩, fun h => absurd h (by decide)⟩)
 by_cases h5 : f = 5
 ·subst h5
  have HP : Hid (∀ v w', Below w.heap.size w w' → NfVal 5 v w' → NfPost 5 w (.returned (.agg #[.string (nfT 5), .int .i64 1, v])) w') := tuck fun v w' h1 h2 => ⟨h1, v, rfl, h2⟩
  have HT : Hid (nfT 5 = { data := #[91, 78, 93, 60, 91, 78, 93, 78, 44, 43, 48, 44, 91, 78, 93, 91, 78, 93, 48, 44, 35, 48, 62] }) := tuck rfl
  have HO : Hid (∀ W, Calls Try.prog 22 #[.string { data := #[91, 78, 93, 60, 91, 78, 93, 78, 44, 43, 48, 44, 91, 78, 93, 91, 78, 93, 48, 44, 35, 48, 62] }, .func (.func 25) #[] #[]] W (OfPost 37 1 (nfT 5) (nfF 5) W)) := tuck fun W => ofOne_any _ _ W
  generalize NfPost 5 w = post at *
  go_enter Try.func11, Try.ntmps11
  go_wp2_with fail
  refine (HO.out _).mono ?_
  rintro e w1 ⟨hb, g, rfl, hg0, hg, hc⟩
  have HB := tuck (bAfter hz hb)
  have hzz : (w.alloc (.cells #[.string { data := #[] }, .int .i64 0, .nilFunc] 35)).heap.size = w.heap.size + 1 := by simp
  have HNE : Hid (g ≠ w.heap.size) := tuck (by omega)
  have HC := tuck (And.intro hg hc)
  obtain ⟨z, c0, c1, c2, cf⟩ := ((FBox.new w { data := #[] } 0 .nilFunc).below hb).facts
  clear hg0 hg hc hb hzz
  rw [HT.out] at HP ⊢
  go_wp2_with fail
  have HNC := nf_cell (gz := w.heap.size) (y0 := .string { data := #[91, 78, 93, 60, 91, 78, 93, 78, 44, 43, 48, 44, 91, 78, 93, 91, 78, 93, 48, 44, 35, 48, 62] }) (y1 := .int .i64 1) (y2 := .func (.func 37) #[] #[.pointer (some ⟨g, 0, none⟩)]) HC.out HNE.out
  refine bodyPost_ret (v := .agg #[.string { data := #[91, 78, 93, 60, 91, 78, 93, 78, 44, 43, 48, 44, 91, 78, 93, 91, 78, 93, 48, 44, 35, 48, 62] }, .int .i64 1, .func (.func 37) #[] #[.pointer (some ⟨g, 0, none⟩)]]) (by simp [results, Try.results11, go_sem, *]) rfl (HP.out _ _ (bSet3 HB.out (Nat.le_refl _) _ _ _ _ _ _) ⟨fun h => absurd h (by decide), fun h => absurd h (by decide), fun _ => ⟨g, rfl, HNC⟩⟩)
 by_cases h6 : f = 6
 ·subst h6
  have HP : Hid (∀ v w', Below w.heap.size w w' → NfVal 6 v w' → NfPost 6 w (.returned (.agg #[.string (nfT 6), .int .i64 1, v])) w') := tuck fun v w' h1 h2 => ⟨h1, v, rfl, h2⟩
  have HT : Hid (nfT 6 = { data := #[91, 78, 93, 60, 91, 78, 93, 78, 44, 48, 44, 91, 78, 93, 91, 78, 93, 43, 43, 35, 48, 44, 35, 48, 62] }) := tuck rfl
  have HO : Hid (∀ W, Calls Try.prog 22 #[.string { data := #[91, 78, 93, 60, 91, 78, 93, 78, 44, 48, 44, 91, 78, 93, 91, 78, 93, 43, 43, 35, 48, 44, 35, 48, 62] }, .func (.func 26) #[] #[]] W (OfPost 37 1 (nfT 6) (nfF 6) W)) := tuck fun W => ofOne_any _ _ W
  generalize NfPost 6 w = post at *
  go_enter Try.func11, Try.ntmps11
  go_wp2_with fail
  refine (HO.out _).mono ?_
  rintro e w1 ⟨hb, g, rfl, hg0, hg, hc⟩
  have HB := tuck (bAfter hz hb)
  have hzz : (w.alloc (.cells #[.string { data := #[] }, .int .i64 0, .nilFunc] 35)).heap.size = w.heap.size + 1 := by simp
  have HNE : Hid (g ≠ w.heap.size) := tuck (by omega)
  have HC := tuck (And.intro hg hc)
  obtain ⟨z, c0, c1, c2, cf⟩ := ((FBox.new w { data := #[] } 0 .nilFunc).below hb).facts
  clear hg0 hg hc hb hzz
  rw [HT.out] at HP ⊢
  go_wp2_with fail
  have HNC := nf_cell (gz := w.heap.size) (y0 := .string { data := #[91, 78, 93, 60, 91, 78, 93, 78, 44, 48, 44, 91, 78, 93, 91, 78, 93, 43, 43, 35, 48, 44, 35, 48, 62] }) (y1 := .int .i64 1) (y2 := .func (.func 37) #[] #[.pointer (some ⟨g, 0, none⟩)]) HC.out HNE.out
  refine bodyPost_ret (v := .agg #[.string { data := #[91, 78, 93, 60, 91, 78, 93, 78, 44, 48, 44, 91, 78, 93, 91, 78, 93, 43, 43, 35, 48, 44, 35, 48, 62] }, .int .i64 1, .func (.func 37) #[] #[.pointer (some ⟨g, 0, none⟩)]]) (by simp [results, Try.results11, go_sem, *]) rfl (HP.out _ _ (bSet3 HB.out (Nat.le_refl _) _ _ _ _ _ _) ⟨fun h => absurd h (by decide), fun h => absurd h (by decide), fun _ => ⟨g, rfl, HNC⟩⟩)
 by_cases h7 : f = 7
 ·subst h7
  have HP : Hid (∀ w', Below w.heap.size w w' → NfPost 7 w (.returned (.agg #[.string { data := #[91, 40, 78, 62, 78, 41, 93, 91, 78, 93, 40, 35, 49, 32, 40, 35, 49, 32, 35, 48, 41, 41] }, .int .i64 (-1), .nilFunc])) w') := tuck fun w' h1 => ⟨h1, .nilFunc, rfl, fun _ => rfl, fun h => absurd h (by decide), fun h => absurd h (by decide)⟩
  generalize NfPost 7 w = post at *
  go_enter Try.func11, Try.ntmps11
  go_wp2_with fail
  refine bodyPost_ret (v := .agg #[.string { data := #[91, 40, 78, 62, 78, 41, 93, 91, 78, 93, 40, 35, 49, 32, 40, 35, 49, 32, 35, 48, 41, 41] }, .int .i64 (-1), .nilFunc]) (by simp [results, Try.results11, go_sem]) rfl (HP.out _ (below1 _ _))
 ·have HP : Hid (∀ w', Below w.heap.size w w' → NfPost f w (.returned (.agg #[.string { data := #[] }, .int .i64 (-1), .nilFunc])) w') := tuck fun w' hbb => by
   have hA : nfA f = -1 := by simp [nfA, h1, h2, h3, h4, h5, h6]
   have hT : nfT f = { data := #[] } := by simp [nfT, h1, h2, h3, h4, h5, h6, h7]
   refine ⟨hbb, .nilFunc, by rw [hA, hT], fun _ => rfl, fun h => ?_, fun h => ?_⟩
   ·rw [hA] at h; exact absurd h (by decide)
   ·rw [hA] at h; exact absurd h (by decide)
  generalize NfPost f w = post at *
  go_enter Try.func11, Try.ntmps11
  go_wp2_with fail
  refine bodyPost_ret (v := .agg #[.string { data := #[] }, .int .i64 (-1), .nilFunc]) (by simp [results, Try.results11, go_sem]) rfl (HP.out _ (below1 _ _))
end Go.Proofs.Ytpddjebdncaceaa
