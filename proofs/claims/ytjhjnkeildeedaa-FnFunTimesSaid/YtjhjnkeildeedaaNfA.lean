/-
  Functions of numbers: what the program keeps of each, which arguments it accepts, and what a value is.
-/
import Derived.Test.YtjhjnkeildeedaaInts
import Derived.Deep.QuietTactic
import Derived.BigQuiet
import Derived.Laws.EntriesVeiled
namespace Go.Proofs.Ytjhjnkeildeedaa
open Go.RowKit
set_option linter.unusedVariables false
set_option linter.unusedSimpArgs false

/-- How many arguments a function has. -/
def nfA (f : Int) : Int := if f = 1 ∨ f = 2 ∨ f = 4 then 2 else if f = 3 ∨ f = 5 ∨ f = 6 then 1 else -1
/-- Its value. -/
def nfV (f a b : Int) : Int := if f = 1 then a + b else if f = 2 then a * b else if f = 4 then (if a < b then 0 else a - b) else if f = 3 then (if a = 0 then 0 else a - 1) else if f = 6 then 2 * a else if a = 0 then 1 else 0
/-- The text of its term. -/
def nfT (f : Int) : ByteArray :=
  if f = 1 then { data := #[91, 78, 93, 91, 78, 93, 60, 91, 78, 93, 78, 44, 35, 49, 44, 91, 78, 93, 91, 78, 93, 43, 35, 48, 44, 35, 48, 62] }
  else if f = 2 then { data := #[91, 78, 93, 91, 78, 93, 60, 91, 78, 93, 78, 44, 48, 44, 91, 78, 93, 91, 78, 93, 40, 40, 91, 78, 93, 91, 78, 93, 60, 91, 78, 93, 78, 44, 35, 49, 44, 91, 78, 93, 91, 78, 93, 43, 35, 48, 44, 35, 48, 62, 32, 35, 50, 41, 32, 35, 48, 41, 44, 35, 49, 62] }
  else if f = 3 then { data := #[91, 78, 93, 60, 91, 78, 93, 78, 44, 48, 44, 91, 78, 93, 91, 78, 93, 35, 49, 44, 35, 48, 62] }
  else if f = 4 then { data := #[91, 78, 93, 91, 78, 93, 60, 91, 78, 93, 78, 44, 35, 49, 44, 91, 78, 93, 91, 78, 93, 40, 91, 78, 93, 60, 91, 78, 93, 78, 44, 48, 44, 91, 78, 93, 91, 78, 93, 35, 49, 44, 35, 48, 62, 32, 35, 48, 41, 44, 35, 48, 62] }
  else if f = 5 then { data := #[91, 78, 93, 60, 91, 78, 93, 78, 44, 43, 48, 44, 91, 78, 93, 91, 78, 93, 48, 44, 35, 48, 62] }
  else if f = 6 then { data := #[91, 78, 93, 60, 91, 78, 93, 78, 44, 48, 44, 91, 78, 93, 91, 78, 93, 43, 43, 35, 48, 44, 35, 48, 62] }
  else if f = 7 then { data := #[91, 40, 78, 62, 78, 41, 93, 91, 78, 93, 40, 35, 49, 32, 40, 35, 49, 32, 35, 48, 41, 41] }
  else { data := #[] }
/-- The closure that it is by. -/
def nfF (f : Int) : Value :=
  if f = 1 then .func (.func 55) #[] #[]
  else if f = 2 then .func (.func 56) #[] #[]
  else if f = 3 then .func (.func 58) #[] #[]
  else if f = 4 then .func (.func 59) #[] #[]
  else if f = 5 then .func (.func 60) #[] #[]
  else .func (.func 61) #[] #[]
/-- A variable that holds a function of numbers. -/
def FBox (g : Nat) (s : ByteArray) (n : Int) (v : Value) (w : World) : Prop := w.heap[g]? = some (.cells #[.string s, .int .i64 n, v] 50 (0, 0))
theorem FBox.facts {g : Nat} {n : Int} {s : ByteArray} {v : Value} {w : World} (h : FBox g s n v w) : g < w.heap.size ∧ w.cell? ⟨g, 0, none⟩ = some (.string s) ∧ w.cell? ⟨g, 1, none⟩ = some (.int .i64 n) ∧ w.cell? ⟨g, 2, none⟩ = some v ∧ ∀ i, w.frozen? ⟨g, i, none⟩ = false := by
  obtain ⟨h1, h2, h3⟩ := block_of_cells h
  exact ⟨h1, h2 0, h2 1, h2 2, h3⟩
theorem FBox.new (w : World) (s : ByteArray) (n : Int) (v : Value) : FBox w.heap.size s n v (w.alloc (.cells #[.string s, .int .i64 n, v] 50)) := heap_new _ _
theorem FBox.below {g : Nat} {n : Int} {s : ByteArray} {v : Value} {w w' : World} (h : FBox g s n v w) (hb : Below w.heap.size w w') : FBox g s n v w' := (hb.block g h.facts.1).trans h

/-- What stands for its value. -/
def NfVal (f : Int) (v : Value) (w : World) : Prop :=
  (nfA f = -1 → v = .nilFunc) ∧ (nfA f = 2 → ∃ g, v = .func (.func 73) #[] #[.pointer (some ⟨g, 0, none⟩)] ∧ g < w.heap.size ∧ w.cell? ⟨g, 0, none⟩ = some (nfF f)) ∧ (nfA f = 1 → ∃ g, v = .func (.func 74) #[] #[.pointer (some ⟨g, 0, none⟩)] ∧ g < w.heap.size ∧ w.cell? ⟨g, 0, none⟩ = some (nfF f))
theorem NfVal.below {f : Int} {v : Value} {w w' : World} (h : NfVal f v w) (hb : Below w.heap.size w w') : NfVal f v w' :=
  ⟨h.1, fun h0 => by obtain ⟨g, h1, h2, h3⟩ := h.2.1 h0; exact ⟨g, h1, Nat.lt_of_lt_of_le h2 hb.size, (hb.cell (p := ⟨g, 0, none⟩) h2).trans h3⟩, fun h0 => by obtain ⟨g, h1, h2, h3⟩ := h.2.2 h0; exact ⟨g, h1, Nat.lt_of_lt_of_le h2 hb.size, (hb.cell (p := ⟨g, 0, none⟩) h2).trans h3⟩⟩
def NfPost (f : Int) (w : World) (e : Ending) (w' : World) : Prop := Below w.heap.size w w' ∧ ∃ v, e = .returned (.agg #[.string (nfT f), .int .i64 (nfA f), v]) ∧ NfVal f v w'
def OfPost (k : Nat) (n : Int) (s : ByteArray) (F : Value) (w : World) (e : Ending) (w' : World) : Prop := Below w.heap.size w w' ∧ ∃ g, e = .returned (.agg #[.string s, .int .i64 n, .func (.func k) #[] #[.pointer (some ⟨g, 0, none⟩)]]) ∧ w.heap.size ≤ g ∧ g < w'.heap.size ∧ w'.cell? ⟨g, 0, none⟩ = some F
theorem nf_cell {g q gz : Nat} {x y0 y1 y2 : Value} {A : World} (h : g < A.heap.size ∧ A.cell? ⟨g, q, none⟩ = some x) (hn : g ≠ gz) : g < (((A.setCell ⟨gz, 0, none⟩ y0).setCell ⟨gz, 1, none⟩ y1).setCell ⟨gz, 2, none⟩ y2).heap.size ∧ (((A.setCell ⟨gz, 0, none⟩ y0).setCell ⟨gz, 1, none⟩ y1).setCell ⟨gz, 2, none⟩ y2).cell? ⟨g, q, none⟩ = some x := by
  refine ⟨by simpa [World.setCell] using h.1, ?_⟩
  rw [World.cell?_of_block (a := ⟨g, q, none⟩) (Below.heap_setCell _ _ _ g (by show g ≠ gz; exact hn)), World.cell?_of_block (a := ⟨g, q, none⟩) (Below.heap_setCell _ _ _ g (by show g ≠ gz; exact hn)), World.cell?_of_block (a := ⟨g, q, none⟩) (Below.heap_setCell _ _ _ g (by show g ≠ gz; exact hn))]
  exact h.2

set_option maxRecDepth 100000 in
theorem ofTwo_any (s : ByteArray) (k : Nat) (w : World) : Calls Try.prog 54 #[.string s, .func (.func k) #[] #[]] w (OfPost 73 2 s (.func (.func k) #[] #[]) w) := by
  have HP : Hid (∀ w' g, Below w.heap.size w w' → w.heap.size ≤ g → g < w'.heap.size → w'.cell? ⟨g, 0, none⟩ = some (.func (.func k) #[] #[]) → OfPost 73 2 s (.func (.func k) #[] #[]) w (.returned (.agg #[.string s, .int .i64 2, .func (.func 73) #[] #[.pointer (some ⟨g, 0, none⟩)]])) w') := tuck fun w' g h1 h0 h2 h3 => ⟨h1, g, rfl, h0, h2, h3⟩
  generalize OfPost 73 2 s (.func (.func k) #[] #[]) w = post at *
  go_enter Try.func54, Try.ntmps54
  have hz1 : (w.alloc (.cells #[.func (.func k) #[] #[]] 68)).heap.size = w.heap.size + 1 := by simp
  have FB := FBox.new (w.alloc (.cells #[.func (.func k) #[] #[]] 68)) s 2 .nilFunc
  rw [hz1] at FB
  obtain ⟨z, c0, c1, c2, cf⟩ := FB.facts
  go_wp2_with fail
  refine bodyPost_ret (v := .agg #[.string s, .int .i64 2, .func (.func 73) #[] #[.pointer (some ⟨w.heap.size, 0, none⟩)]]) (by simp [results, Try.results54, go_sem]) rfl (HP.out _ w.heap.size (below2 _ _ _) (Nat.le_refl _) (by simp; omega) ?_)
  exact ((below1 _ _).cell (p := ⟨w.heap.size, 0, none⟩) (by simp)).trans (by rw [World.cell?_alloc_new]; rfl)

set_option maxRecDepth 100000 in
theorem ofOne_any (s : ByteArray) (k : Nat) (w : World) : Calls Try.prog 57 #[.string s, .func (.func k) #[] #[]] w (OfPost 74 1 s (.func (.func k) #[] #[]) w) := by
  have HP : Hid (∀ w' g, Below w.heap.size w w' → w.heap.size ≤ g → g < w'.heap.size → w'.cell? ⟨g, 0, none⟩ = some (.func (.func k) #[] #[]) → OfPost 74 1 s (.func (.func k) #[] #[]) w (.returned (.agg #[.string s, .int .i64 1, .func (.func 74) #[] #[.pointer (some ⟨g, 0, none⟩)]])) w') := tuck fun w' g h1 h0 h2 h3 => ⟨h1, g, rfl, h0, h2, h3⟩
  generalize OfPost 74 1 s (.func (.func k) #[] #[]) w = post at *
  go_enter Try.func57, Try.ntmps57
  have hz1 : (w.alloc (.cells #[.func (.func k) #[] #[]] 22)).heap.size = w.heap.size + 1 := by simp
  have FB := FBox.new (w.alloc (.cells #[.func (.func k) #[] #[]] 22)) s 1 .nilFunc
  rw [hz1] at FB
  obtain ⟨z, c0, c1, c2, cf⟩ := FB.facts
  go_wp2_with fail
  refine bodyPost_ret (v := .agg #[.string s, .int .i64 1, .func (.func 74) #[] #[.pointer (some ⟨w.heap.size, 0, none⟩)]]) (by simp [results, Try.results57, go_sem]) rfl (HP.out _ w.heap.size (below2 _ _ _) (Nat.le_refl _) (by simp; omega) ?_)
  exact ((below1 _ _).cell (p := ⟨w.heap.size, 0, none⟩) (by simp)).trans (by rw [World.cell?_alloc_new]; rfl)

set_option maxRecDepth 100000 in
theorem in1_any (a b : Int) (ha0 : 0 ≤ a) (ha1 : a ≤ 20) (hb0 : 0 ≤ b) (hb1 : b ≤ 20) (w : World) : Calls Try.prog 55 #[.int .i64 a, .int .i64 b] w (fun e w' => e = .returned (.int .i64 (nfV 1 a b)) ∧ w' = w) := by
  have HP : Hid (∀ x, x = nfV 1 a b → (fun (e : Ending) w' => e = .returned (.int .i64 (nfV 1 a b)) ∧ w' = w) (.returned (.int .i64 x)) w) := tuck fun x h => by rw [h]; exact ⟨rfl, rfl⟩
  generalize (fun (e : Ending) w' => e = .returned (.int .i64 (nfV 1 a b)) ∧ w' = w) = post at *
  go_enter Try.func55, Try.ntmps55
  go_wp2
  exact HP.out _ (by simp [nfV])

set_option maxRecDepth 100000 in
theorem in2_any (a b : Int) (ha0 : 0 ≤ a) (ha1 : a ≤ 20) (hb0 : 0 ≤ b) (hb1 : b ≤ 20) (w : World) : Calls Try.prog 56 #[.int .i64 a, .int .i64 b] w (fun e w' => e = .returned (.int .i64 (nfV 2 a b)) ∧ w' = w) := by
  have HP : Hid (∀ x, x = nfV 2 a b → (fun (e : Ending) w' => e = .returned (.int .i64 (nfV 2 a b)) ∧ w' = w) (.returned (.int .i64 x)) w) := tuck fun x h => by rw [h]; exact ⟨rfl, rfl⟩
  generalize (fun (e : Ending) w' => e = .returned (.int .i64 (nfV 2 a b)) ∧ w' = w) = post at *
  have hm0 : 0 ≤ a * b := Int.mul_nonneg ha0 hb0
  have hm1 : a * b ≤ 400 := Int.le_trans (Int.mul_le_mul_of_nonneg_left hb1 ha0) (by omega)
  go_enter Try.func56, Try.ntmps56
  go_wp2
  exact HP.out _ (by simp [nfV])

set_option maxRecDepth 100000 in
theorem in4_any (a b : Int) (ha0 : 0 ≤ a) (ha1 : a ≤ 20) (hb0 : 0 ≤ b) (hb1 : b ≤ 20) (w : World) : Calls Try.prog 59 #[.int .i64 a, .int .i64 b] w (fun e w' => e = .returned (.int .i64 (nfV 4 a b)) ∧ w' = w) := by
  have HP : Hid (∀ x, x = nfV 4 a b → (fun (e : Ending) w' => e = .returned (.int .i64 (nfV 4 a b)) ∧ w' = w) (.returned (.int .i64 x)) w) := tuck fun x h => by rw [h]; exact ⟨rfl, rfl⟩
  generalize (fun (e : Ending) w' => e = .returned (.int .i64 (nfV 4 a b)) ∧ w' = w) = post at *
  by_cases hs : a - b < 0
  · have hd : decide ((0 : Int) > a - b) = true := decide_eq_true hs
    go_enter Try.func59, Try.ntmps59
    go_wp2
    refine HP.out _ ?_
    simp [nfV]
    omega
  · have hd : decide ((0 : Int) > a - b) = false := decide_eq_false hs
    go_enter Try.func59, Try.ntmps59
    go_wp2
    refine HP.out _ ?_
    simp [nfV]
    omega

set_option maxRecDepth 100000 in
theorem in3_any (a : Int) (ha0 : 0 ≤ a) (ha1 : a ≤ 20) (w : World) : Calls Try.prog 58 #[.int .i64 a] w (fun e w' => e = .returned (.int .i64 (nfV 3 a a)) ∧ w' = w) := by
  have HP : Hid (∀ x, x = nfV 3 a a → (fun (e : Ending) w' => e = .returned (.int .i64 (nfV 3 a a)) ∧ w' = w) (.returned (.int .i64 x)) w) := tuck fun x h => by rw [h]; exact ⟨rfl, rfl⟩
  generalize (fun (e : Ending) w' => e = .returned (.int .i64 (nfV 3 a a)) ∧ w' = w) = post at *
  by_cases hs : a - 1 < 0
  · have hd : decide ((0 : Int) > a - 1) = true := decide_eq_true hs
    go_enter Try.func58, Try.ntmps58
    go_wp2
    refine HP.out _ ?_
    simp [nfV]
    omega
  · have hd : decide ((0 : Int) > a - 1) = false := decide_eq_false hs
    go_enter Try.func58, Try.ntmps58
    go_wp2
    refine HP.out _ ?_
    simp [nfV]
    omega

set_option maxRecDepth 100000 in
theorem in5_any (a : Int) (ha0 : 0 ≤ a) (ha1 : a ≤ 20) (w : World) : Calls Try.prog 60 #[.int .i64 a] w (fun e w' => e = .returned (.int .i64 (nfV 5 a a)) ∧ w' = w) := by
  have HP : Hid (∀ x, x = nfV 5 a a → (fun (e : Ending) w' => e = .returned (.int .i64 (nfV 5 a a)) ∧ w' = w) (.returned (.int .i64 x)) w) := tuck fun x h => by rw [h]; exact ⟨rfl, rfl⟩
  generalize (fun (e : Ending) w' => e = .returned (.int .i64 (nfV 5 a a)) ∧ w' = w) = post at *
  by_cases hs : a = 0
  · subst hs
    go_enter Try.func60, Try.ntmps60
    go_wp2
    exact HP.out _ (by simp [nfV])
  · have hd : (a == 0) = false := by simpa using hs
    go_enter Try.func60, Try.ntmps60
    go_wp2
    exact HP.out _ (by simp [nfV, hs])

set_option maxRecDepth 100000 in
theorem in6_any (a : Int) (ha0 : 0 ≤ a) (ha1 : a ≤ 20) (w : World) : Calls Try.prog 61 #[.int .i64 a] w (fun e w' => e = .returned (.int .i64 (nfV 6 a a)) ∧ w' = w) := by
  have HP : Hid (∀ x, x = nfV 6 a a → (fun (e : Ending) w' => e = .returned (.int .i64 (nfV 6 a a)) ∧ w' = w) (.returned (.int .i64 x)) w) := tuck fun x h => by rw [h]; exact ⟨rfl, rfl⟩
  generalize (fun (e : Ending) w' => e = .returned (.int .i64 (nfV 6 a a)) ∧ w' = w) = post at *
  go_enter Try.func61, Try.ntmps61
  go_wp2
  exact HP.out _ (by simp [nfV])

set_option maxRecDepth 100000 in
set_option maxHeartbeats 1600000 in
theorem out1_any (N : Int → Int) (g : Nat) (w : World) (v : Value) (hv : Ints w 0 N 2 v) (hN : ∀ i : Nat, i < 2 → 0 ≤ N i ∧ N i ≤ 20) (hg : g < w.heap.size) (hc : w.cell? ⟨g, 0, none⟩ = some (nfF 1)) : Calls Try.prog 73 #[v, .pointer (some ⟨g, 0, none⟩)] w (fun e w' => e = .returned (.int .i64 (nfV 1 (N 0) (N 1))) ∧ ∃ m, w' = w.drewN m) := by
  obtain ⟨a, cap, b, o, rfl, h1, h2⟩ := hv
  obtain ⟨rfl, -, hbw⟩ := h1 (by omega)
  have c0 := h2 0 (by omega)
  have c1 := h2 1 (by omega)
  have hn0 := hN 0 (by omega)
  have hn1 := hN 1 (by omega)
  have hcl : nfF 1 = .func (.func 55) #[] #[] := rfl
  rw [hcl] at hc
  clear hcl h1 h2 hN
  simp only [Int.natCast_zero, Int.natCast_one, Nat.add_zero] at c0 hn0 c1 hn1
  have HI : Hid (∀ W, Calls Try.prog 55 #[.int .i64 (N 0), .int .i64 (N 1)] W (fun e w' => e = .returned (.int .i64 (nfV 1 (N 0) (N 1))) ∧ w' = W)) := tuck fun W => in1_any _ _ hn0.1 hn0.2 hn1.1 hn1.2 W
  have HP : Hid (∀ m, (fun (e : Ending) w' => e = .returned (.int .i64 (nfV 1 (N 0) (N 1))) ∧ ∃ m, w' = w.drewN m) (.returned (.int .i64 (nfV 1 (N 0) (N 1)))) (w.drewN m)) := tuck fun m => ⟨rfl, m, rfl⟩
  generalize (fun (e : Ending) w' => e = .returned (.int .i64 (nfV 1 (N 0) (N 1))) ∧ ∃ m, w' = w.drewN m) = post at *
  generalize nfV 1 (N 0) (N 1) = R at *
  generalize N 0 = n0 at *
  generalize N 1 = n1 at *
  go_enter Try.func73, Try.ntmps73
  go_wp2_with fail
  go_quiet ((go_at_call 55; exact Calls.quiet_of_same (HI.out _)))
  go_wp2_with fail
  exact HP.out _

set_option maxRecDepth 100000 in
set_option maxHeartbeats 1600000 in
theorem out2_any (N : Int → Int) (g : Nat) (w : World) (v : Value) (hv : Ints w 0 N 2 v) (hN : ∀ i : Nat, i < 2 → 0 ≤ N i ∧ N i ≤ 20) (hg : g < w.heap.size) (hc : w.cell? ⟨g, 0, none⟩ = some (nfF 2)) : Calls Try.prog 73 #[v, .pointer (some ⟨g, 0, none⟩)] w (fun e w' => e = .returned (.int .i64 (nfV 2 (N 0) (N 1))) ∧ ∃ m, w' = w.drewN m) := by
  obtain ⟨a, cap, b, o, rfl, h1, h2⟩ := hv
  obtain ⟨rfl, -, hbw⟩ := h1 (by omega)
  have c0 := h2 0 (by omega)
  have c1 := h2 1 (by omega)
  have hn0 := hN 0 (by omega)
  have hn1 := hN 1 (by omega)
  have hcl : nfF 2 = .func (.func 56) #[] #[] := rfl
  rw [hcl] at hc
  clear hcl h1 h2 hN
  simp only [Int.natCast_zero, Int.natCast_one, Nat.add_zero] at c0 hn0 c1 hn1
  have HI : Hid (∀ W, Calls Try.prog 56 #[.int .i64 (N 0), .int .i64 (N 1)] W (fun e w' => e = .returned (.int .i64 (nfV 2 (N 0) (N 1))) ∧ w' = W)) := tuck fun W => in2_any _ _ hn0.1 hn0.2 hn1.1 hn1.2 W
  have HP : Hid (∀ m, (fun (e : Ending) w' => e = .returned (.int .i64 (nfV 2 (N 0) (N 1))) ∧ ∃ m, w' = w.drewN m) (.returned (.int .i64 (nfV 2 (N 0) (N 1)))) (w.drewN m)) := tuck fun m => ⟨rfl, m, rfl⟩
  generalize (fun (e : Ending) w' => e = .returned (.int .i64 (nfV 2 (N 0) (N 1))) ∧ ∃ m, w' = w.drewN m) = post at *
  generalize nfV 2 (N 0) (N 1) = R at *
  generalize N 0 = n0 at *
  generalize N 1 = n1 at *
  go_enter Try.func73, Try.ntmps73
  go_wp2_with fail
  go_quiet ((go_at_call 56; exact Calls.quiet_of_same (HI.out _)))
  go_wp2_with fail
  exact HP.out _

set_option maxRecDepth 100000 in
set_option maxHeartbeats 1600000 in
theorem out4_any (N : Int → Int) (g : Nat) (w : World) (v : Value) (hv : Ints w 0 N 2 v) (hN : ∀ i : Nat, i < 2 → 0 ≤ N i ∧ N i ≤ 20) (hg : g < w.heap.size) (hc : w.cell? ⟨g, 0, none⟩ = some (nfF 4)) : Calls Try.prog 73 #[v, .pointer (some ⟨g, 0, none⟩)] w (fun e w' => e = .returned (.int .i64 (nfV 4 (N 0) (N 1))) ∧ ∃ m, w' = w.drewN m) := by
  obtain ⟨a, cap, b, o, rfl, h1, h2⟩ := hv
  obtain ⟨rfl, -, hbw⟩ := h1 (by omega)
  have c0 := h2 0 (by omega)
  have c1 := h2 1 (by omega)
  have hn0 := hN 0 (by omega)
  have hn1 := hN 1 (by omega)
  have hcl : nfF 4 = .func (.func 59) #[] #[] := rfl
  rw [hcl] at hc
  clear hcl h1 h2 hN
  simp only [Int.natCast_zero, Int.natCast_one, Nat.add_zero] at c0 hn0 c1 hn1
  have HI : Hid (∀ W, Calls Try.prog 59 #[.int .i64 (N 0), .int .i64 (N 1)] W (fun e w' => e = .returned (.int .i64 (nfV 4 (N 0) (N 1))) ∧ w' = W)) := tuck fun W => in4_any _ _ hn0.1 hn0.2 hn1.1 hn1.2 W
  have HP : Hid (∀ m, (fun (e : Ending) w' => e = .returned (.int .i64 (nfV 4 (N 0) (N 1))) ∧ ∃ m, w' = w.drewN m) (.returned (.int .i64 (nfV 4 (N 0) (N 1)))) (w.drewN m)) := tuck fun m => ⟨rfl, m, rfl⟩
  generalize (fun (e : Ending) w' => e = .returned (.int .i64 (nfV 4 (N 0) (N 1))) ∧ ∃ m, w' = w.drewN m) = post at *
  generalize nfV 4 (N 0) (N 1) = R at *
  generalize N 0 = n0 at *
  generalize N 1 = n1 at *
  go_enter Try.func73, Try.ntmps73
  go_wp2_with fail
  go_quiet ((go_at_call 59; exact Calls.quiet_of_same (HI.out _)))
  go_wp2_with fail
  exact HP.out _

set_option maxRecDepth 100000 in
set_option maxHeartbeats 1600000 in
theorem out3_any (N : Int → Int) (g : Nat) (w : World) (v : Value) (hv : Ints w 0 N 1 v) (hN : ∀ i : Nat, i < 1 → 0 ≤ N i ∧ N i ≤ 20) (hg : g < w.heap.size) (hc : w.cell? ⟨g, 0, none⟩ = some (nfF 3)) : Calls Try.prog 74 #[v, .pointer (some ⟨g, 0, none⟩)] w (fun e w' => e = .returned (.int .i64 (nfV 3 (N 0) (N 0))) ∧ ∃ m, w' = w.drewN m) := by
  obtain ⟨a, cap, b, o, rfl, h1, h2⟩ := hv
  obtain ⟨rfl, -, hbw⟩ := h1 (by omega)
  have c0 := h2 0 (by omega)
  skip
  have hn0 := hN 0 (by omega)
  skip
  have hcl : nfF 3 = .func (.func 58) #[] #[] := rfl
  rw [hcl] at hc
  clear hcl h1 h2 hN
  simp only [Int.natCast_zero, Int.natCast_one, Nat.add_zero] at c0 hn0 
  have HI : Hid (∀ W, Calls Try.prog 58 #[.int .i64 (N 0)] W (fun e w' => e = .returned (.int .i64 (nfV 3 (N 0) (N 0))) ∧ w' = W)) := tuck fun W => in3_any _ hn0.1 hn0.2 W
  have HP : Hid (∀ m, (fun (e : Ending) w' => e = .returned (.int .i64 (nfV 3 (N 0) (N 0))) ∧ ∃ m, w' = w.drewN m) (.returned (.int .i64 (nfV 3 (N 0) (N 0)))) (w.drewN m)) := tuck fun m => ⟨rfl, m, rfl⟩
  generalize (fun (e : Ending) w' => e = .returned (.int .i64 (nfV 3 (N 0) (N 0))) ∧ ∃ m, w' = w.drewN m) = post at *
  generalize nfV 3 (N 0) (N 0) = R at *
  generalize N 0 = n0 at *
  skip
  go_enter Try.func74, Try.ntmps74
  go_wp2_with fail
  go_quiet ((go_at_call 58; exact Calls.quiet_of_same (HI.out _)))
  go_wp2_with fail
  exact HP.out _

set_option maxRecDepth 100000 in
set_option maxHeartbeats 1600000 in
theorem out5_any (N : Int → Int) (g : Nat) (w : World) (v : Value) (hv : Ints w 0 N 1 v) (hN : ∀ i : Nat, i < 1 → 0 ≤ N i ∧ N i ≤ 20) (hg : g < w.heap.size) (hc : w.cell? ⟨g, 0, none⟩ = some (nfF 5)) : Calls Try.prog 74 #[v, .pointer (some ⟨g, 0, none⟩)] w (fun e w' => e = .returned (.int .i64 (nfV 5 (N 0) (N 0))) ∧ ∃ m, w' = w.drewN m) := by
  obtain ⟨a, cap, b, o, rfl, h1, h2⟩ := hv
  obtain ⟨rfl, -, hbw⟩ := h1 (by omega)
  have c0 := h2 0 (by omega)
  skip
  have hn0 := hN 0 (by omega)
  skip
  have hcl : nfF 5 = .func (.func 60) #[] #[] := rfl
  rw [hcl] at hc
  clear hcl h1 h2 hN
  simp only [Int.natCast_zero, Int.natCast_one, Nat.add_zero] at c0 hn0 
  have HI : Hid (∀ W, Calls Try.prog 60 #[.int .i64 (N 0)] W (fun e w' => e = .returned (.int .i64 (nfV 5 (N 0) (N 0))) ∧ w' = W)) := tuck fun W => in5_any _ hn0.1 hn0.2 W
  have HP : Hid (∀ m, (fun (e : Ending) w' => e = .returned (.int .i64 (nfV 5 (N 0) (N 0))) ∧ ∃ m, w' = w.drewN m) (.returned (.int .i64 (nfV 5 (N 0) (N 0)))) (w.drewN m)) := tuck fun m => ⟨rfl, m, rfl⟩
  generalize (fun (e : Ending) w' => e = .returned (.int .i64 (nfV 5 (N 0) (N 0))) ∧ ∃ m, w' = w.drewN m) = post at *
  generalize nfV 5 (N 0) (N 0) = R at *
  generalize N 0 = n0 at *
  skip
  go_enter Try.func74, Try.ntmps74
  go_wp2_with fail
  go_quiet ((go_at_call 60; exact Calls.quiet_of_same (HI.out _)))
  go_wp2_with fail
  exact HP.out _

set_option maxRecDepth 100000 in
set_option maxHeartbeats 1600000 in
theorem out6_any (N : Int → Int) (g : Nat) (w : World) (v : Value) (hv : Ints w 0 N 1 v) (hN : ∀ i : Nat, i < 1 → 0 ≤ N i ∧ N i ≤ 20) (hg : g < w.heap.size) (hc : w.cell? ⟨g, 0, none⟩ = some (nfF 6)) : Calls Try.prog 74 #[v, .pointer (some ⟨g, 0, none⟩)] w (fun e w' => e = .returned (.int .i64 (nfV 6 (N 0) (N 0))) ∧ ∃ m, w' = w.drewN m) := by
  obtain ⟨a, cap, b, o, rfl, h1, h2⟩ := hv
  obtain ⟨rfl, -, hbw⟩ := h1 (by omega)
  have c0 := h2 0 (by omega)
  skip
  have hn0 := hN 0 (by omega)
  skip
  have hcl : nfF 6 = .func (.func 61) #[] #[] := rfl
  rw [hcl] at hc
  clear hcl h1 h2 hN
  simp only [Int.natCast_zero, Int.natCast_one, Nat.add_zero] at c0 hn0 
  have HI : Hid (∀ W, Calls Try.prog 61 #[.int .i64 (N 0)] W (fun e w' => e = .returned (.int .i64 (nfV 6 (N 0) (N 0))) ∧ w' = W)) := tuck fun W => in6_any _ hn0.1 hn0.2 W
  have HP : Hid (∀ m, (fun (e : Ending) w' => e = .returned (.int .i64 (nfV 6 (N 0) (N 0))) ∧ ∃ m, w' = w.drewN m) (.returned (.int .i64 (nfV 6 (N 0) (N 0)))) (w.drewN m)) := tuck fun m => ⟨rfl, m, rfl⟩
  generalize (fun (e : Ending) w' => e = .returned (.int .i64 (nfV 6 (N 0) (N 0))) ∧ ∃ m, w' = w.drewN m) = post at *
  generalize nfV 6 (N 0) (N 0) = R at *
  generalize N 0 = n0 at *
  skip
  go_enter Try.func74, Try.ntmps74
  go_wp2_with fail
  go_quiet ((go_at_call 61; exact Calls.quiet_of_same (HI.out _)))
  go_wp2_with fail
  exact HP.out _

set_option maxRecDepth 100000 in
set_option maxHeartbeats 3200000 in
theorem numFun_any (f : Int) (w : World) : Calls Try.prog 33 #[.int .i64 f] w (NfPost f w) := by
  have hz : Below w.heap.size w (w.alloc (.cells #[.string { data := #[] }, .int .i64 0, .nilFunc] 50)) := below1 _ _
  by_cases h1 : f = 1
  · subst h1
    have HP : Hid (∀ v w', Below w.heap.size w w' → NfVal 1 v w' → NfPost 1 w (.returned (.agg #[.string (nfT 1), .int .i64 2, v])) w') := tuck fun v w' h1 h2 => ⟨h1, v, rfl, h2⟩
    have HT : Hid (nfT 1 = { data := #[91, 78, 93, 91, 78, 93, 60, 91, 78, 93, 78, 44, 35, 49, 44, 91, 78, 93, 91, 78, 93, 43, 35, 48, 44, 35, 48, 62] }) := tuck rfl
    have HO : Hid (∀ W, Calls Try.prog 54 #[.string { data := #[91, 78, 93, 91, 78, 93, 60, 91, 78, 93, 78, 44, 35, 49, 44, 91, 78, 93, 91, 78, 93, 43, 35, 48, 44, 35, 48, 62] }, .func (.func 55) #[] #[]] W (OfPost 73 2 (nfT 1) (nfF 1) W)) := tuck fun W => ofTwo_any _ _ W
    generalize NfPost 1 w = post at *
    go_enter Try.func33, Try.ntmps33
    go_wp2_with fail
    refine (HO.out _).mono ?_
    rintro e w1 ⟨hb, g, rfl, hg0, hg, hc⟩
    have HB := tuck (bAfter hz hb)
    have hzz : (w.alloc (.cells #[.string { data := #[] }, .int .i64 0, .nilFunc] 50)).heap.size = w.heap.size + 1 := by simp
    have HNE : Hid (g ≠ w.heap.size) := tuck (by omega)
    have HC := tuck (And.intro hg hc)
    obtain ⟨z, c0, c1, c2, cf⟩ := ((FBox.new w { data := #[] } 0 .nilFunc).below hb).facts
    clear hg0 hg hc hb hzz
    rw [HT.out] at HP ⊢
    go_wp2_with fail
    have HNC := nf_cell (gz := w.heap.size) (y0 := .string { data := #[91, 78, 93, 91, 78, 93, 60, 91, 78, 93, 78, 44, 35, 49, 44, 91, 78, 93, 91, 78, 93, 43, 35, 48, 44, 35, 48, 62] }) (y1 := .int .i64 2) (y2 := .func (.func 73) #[] #[.pointer (some ⟨g, 0, none⟩)]) HC.out HNE.out
    refine bodyPost_ret (v := .agg #[.string { data := #[91, 78, 93, 91, 78, 93, 60, 91, 78, 93, 78, 44, 35, 49, 44, 91, 78, 93, 91, 78, 93, 43, 35, 48, 44, 35, 48, 62] }, .int .i64 2, .func (.func 73) #[] #[.pointer (some ⟨g, 0, none⟩)]]) (by simp [results, Try.results33, go_sem, *]) rfl (HP.out _ _ (bSet3 HB.out (Nat.le_refl _) _ _ _ _ _ _) ⟨fun h => absurd h (by decide), fun _ => ⟨g, rfl, HNC⟩, fun h => absurd h (by decide)⟩)
  by_cases h2 : f = 2
  · subst h2
    have HP : Hid (∀ v w', Below w.heap.size w w' → NfVal 2 v w' → NfPost 2 w (.returned (.agg #[.string (nfT 2), .int .i64 2, v])) w') := tuck fun v w' h1 h2 => ⟨h1, v, rfl, h2⟩
    have HT : Hid (nfT 2 = { data := #[91, 78, 93, 91, 78, 93, 60, 91, 78, 93, 78, 44, 48, 44, 91, 78, 93, 91, 78, 93, 40, 40, 91, 78, 93, 91, 78, 93, 60, 91, 78, 93, 78, 44, 35, 49, 44, 91, 78, 93, 91, 78, 93, 43, 35, 48, 44, 35, 48, 62, 32, 35, 50, 41, 32, 35, 48, 41, 44, 35, 49, 62] }) := tuck rfl
    have HO : Hid (∀ W, Calls Try.prog 54 #[.string { data := #[91, 78, 93, 91, 78, 93, 60, 91, 78, 93, 78, 44, 48, 44, 91, 78, 93, 91, 78, 93, 40, 40, 91, 78, 93, 91, 78, 93, 60, 91, 78, 93, 78, 44, 35, 49, 44, 91, 78, 93, 91, 78, 93, 43, 35, 48, 44, 35, 48, 62, 32, 35, 50, 41, 32, 35, 48, 41, 44, 35, 49, 62] }, .func (.func 56) #[] #[]] W (OfPost 73 2 (nfT 2) (nfF 2) W)) := tuck fun W => ofTwo_any _ _ W
    generalize NfPost 2 w = post at *
    go_enter Try.func33, Try.ntmps33
    go_wp2_with fail
    refine (HO.out _).mono ?_
    rintro e w1 ⟨hb, g, rfl, hg0, hg, hc⟩
    have HB := tuck (bAfter hz hb)
    have hzz : (w.alloc (.cells #[.string { data := #[] }, .int .i64 0, .nilFunc] 50)).heap.size = w.heap.size + 1 := by simp
    have HNE : Hid (g ≠ w.heap.size) := tuck (by omega)
    have HC := tuck (And.intro hg hc)
    obtain ⟨z, c0, c1, c2, cf⟩ := ((FBox.new w { data := #[] } 0 .nilFunc).below hb).facts
    clear hg0 hg hc hb hzz
    rw [HT.out] at HP ⊢
    go_wp2_with fail
    have HNC := nf_cell (gz := w.heap.size) (y0 := .string { data := #[91, 78, 93, 91, 78, 93, 60, 91, 78, 93, 78, 44, 48, 44, 91, 78, 93, 91, 78, 93, 40, 40, 91, 78, 93, 91, 78, 93, 60, 91, 78, 93, 78, 44, 35, 49, 44, 91, 78, 93, 91, 78, 93, 43, 35, 48, 44, 35, 48, 62, 32, 35, 50, 41, 32, 35, 48, 41, 44, 35, 49, 62] }) (y1 := .int .i64 2) (y2 := .func (.func 73) #[] #[.pointer (some ⟨g, 0, none⟩)]) HC.out HNE.out
    refine bodyPost_ret (v := .agg #[.string { data := #[91, 78, 93, 91, 78, 93, 60, 91, 78, 93, 78, 44, 48, 44, 91, 78, 93, 91, 78, 93, 40, 40, 91, 78, 93, 91, 78, 93, 60, 91, 78, 93, 78, 44, 35, 49, 44, 91, 78, 93, 91, 78, 93, 43, 35, 48, 44, 35, 48, 62, 32, 35, 50, 41, 32, 35, 48, 41, 44, 35, 49, 62] }, .int .i64 2, .func (.func 73) #[] #[.pointer (some ⟨g, 0, none⟩)]]) (by simp [results, Try.results33, go_sem, *]) rfl (HP.out _ _ (bSet3 HB.out (Nat.le_refl _) _ _ _ _ _ _) ⟨fun h => absurd h (by decide), fun _ => ⟨g, rfl, HNC⟩, fun h => absurd h (by decide)⟩)
  by_cases h3 : f = 3
  · subst h3
    have HP : Hid (∀ v w', Below w.heap.size w w' → NfVal 3 v w' → NfPost 3 w (.returned (.agg #[.string (nfT 3), .int .i64 1, v])) w') := tuck fun v w' h1 h2 => ⟨h1, v, rfl, h2⟩
    have HT : Hid (nfT 3 = { data := #[91, 78, 93, 60, 91, 78, 93, 78, 44, 48, 44, 91, 78, 93, 91, 78, 93, 35, 49, 44, 35, 48, 62] }) := tuck rfl
    have HO : Hid (∀ W, Calls Try.prog 57 #[.string { data := #[91, 78, 93, 60, 91, 78, 93, 78, 44, 48, 44, 91, 78, 93, 91, 78, 93, 35, 49, 44, 35, 48, 62] }, .func (.func 58) #[] #[]] W (OfPost 74 1 (nfT 3) (nfF 3) W)) := tuck fun W => ofOne_any _ _ W
    generalize NfPost 3 w = post at *
    go_enter Try.func33, Try.ntmps33
    go_wp2_with fail
    refine (HO.out _).mono ?_
    rintro e w1 ⟨hb, g, rfl, hg0, hg, hc⟩
    have HB := tuck (bAfter hz hb)
    have hzz : (w.alloc (.cells #[.string { data := #[] }, .int .i64 0, .nilFunc] 50)).heap.size = w.heap.size + 1 := by simp
    have HNE : Hid (g ≠ w.heap.size) := tuck (by omega)
    have HC := tuck (And.intro hg hc)
    obtain ⟨z, c0, c1, c2, cf⟩ := ((FBox.new w { data := #[] } 0 .nilFunc).below hb).facts
    clear hg0 hg hc hb hzz
    rw [HT.out] at HP ⊢
    go_wp2_with fail
    have HNC := nf_cell (gz := w.heap.size) (y0 := .string { data := #[91, 78, 93, 60, 91, 78, 93, 78, 44, 48, 44, 91, 78, 93, 91, 78, 93, 35, 49, 44, 35, 48, 62] }) (y1 := .int .i64 1) (y2 := .func (.func 74) #[] #[.pointer (some ⟨g, 0, none⟩)]) HC.out HNE.out
    refine bodyPost_ret (v := .agg #[.string { data := #[91, 78, 93, 60, 91, 78, 93, 78, 44, 48, 44, 91, 78, 93, 91, 78, 93, 35, 49, 44, 35, 48, 62] }, .int .i64 1, .func (.func 74) #[] #[.pointer (some ⟨g, 0, none⟩)]]) (by simp [results, Try.results33, go_sem, *]) rfl (HP.out _ _ (bSet3 HB.out (Nat.le_refl _) _ _ _ _ _ _) ⟨fun h => absurd h (by decide), fun h => absurd h (by decide), fun _ => ⟨g, rfl, HNC⟩⟩)
  by_cases h4 : f = 4
  · subst h4
    have HP : Hid (∀ v w', Below w.heap.size w w' → NfVal 4 v w' → NfPost 4 w (.returned (.agg #[.string (nfT 4), .int .i64 2, v])) w') := tuck fun v w' h1 h2 => ⟨h1, v, rfl, h2⟩
    have HT : Hid (nfT 4 = { data := #[91, 78, 93, 91, 78, 93, 60, 91, 78, 93, 78, 44, 35, 49, 44, 91, 78, 93, 91, 78, 93, 40, 91, 78, 93, 60, 91, 78, 93, 78, 44, 48, 44, 91, 78, 93, 91, 78, 93, 35, 49, 44, 35, 48, 62, 32, 35, 48, 41, 44, 35, 48, 62] }) := tuck rfl
    have HO : Hid (∀ W, Calls Try.prog 54 #[.string { data := #[91, 78, 93, 91, 78, 93, 60, 91, 78, 93, 78, 44, 35, 49, 44, 91, 78, 93, 91, 78, 93, 40, 91, 78, 93, 60, 91, 78, 93, 78, 44, 48, 44, 91, 78, 93, 91, 78, 93, 35, 49, 44, 35, 48, 62, 32, 35, 48, 41, 44, 35, 48, 62] }, .func (.func 59) #[] #[]] W (OfPost 73 2 (nfT 4) (nfF 4) W)) := tuck fun W => ofTwo_any _ _ W
    generalize NfPost 4 w = post at *
    go_enter Try.func33, Try.ntmps33
    go_wp2_with fail
    refine (HO.out _).mono ?_
    rintro e w1 ⟨hb, g, rfl, hg0, hg, hc⟩
    have HB := tuck (bAfter hz hb)
    have hzz : (w.alloc (.cells #[.string { data := #[] }, .int .i64 0, .nilFunc] 50)).heap.size = w.heap.size + 1 := by simp
    have HNE : Hid (g ≠ w.heap.size) := tuck (by omega)
    have HC := tuck (And.intro hg hc)
    obtain ⟨z, c0, c1, c2, cf⟩ := ((FBox.new w { data := #[] } 0 .nilFunc).below hb).facts
    clear hg0 hg hc hb hzz
    rw [HT.out] at HP ⊢
    go_wp2_with fail
    have HNC := nf_cell (gz := w.heap.size) (y0 := .string { data := #[91, 78, 93, 91, 78, 93, 60, 91, 78, 93, 78, 44, 35, 49, 44, 91, 78, 93, 91, 78, 93, 40, 91, 78, 93, 60, 91, 78, 93, 78, 44, 48, 44, 91, 78, 93, 91, 78, 93, 35, 49, 44, 35, 48, 62, 32, 35, 48, 41, 44, 35, 48, 62] }) (y1 := .int .i64 2) (y2 := .func (.func 73) #[] #[.pointer (some ⟨g, 0, none⟩)]) HC.out HNE.out
    refine bodyPost_ret (v := .agg #[.string { data := #[91, 78, 93, 91, 78, 93, 60, 91, 78, 93, 78, 44, 35, 49, 44, 91, 78, 93, 91, 78, 93, 40, 91, 78, 93, 60, 91, 78, 93, 78, 44, 48, 44, 91, 78, 93, 91, 78, 93, 35, 49, 44, 35, 48, 62, 32, 35, 48, 41, 44, 35, 48, 62] }, .int .i64 2, .func (.func 73) #[] #[.pointer (some ⟨g, 0, none⟩)]]) (by simp [results, Try.results33, go_sem, *]) rfl (HP.out _ _ (bSet3 HB.out (Nat.le_refl _) _ _ _ _ _ _) ⟨fun h => absurd h (by decide), fun _ => ⟨g, rfl, HNC⟩, fun h => absurd h (by decide)⟩)
  by_cases h5 : f = 5
  · subst h5
    have HP : Hid (∀ v w', Below w.heap.size w w' → NfVal 5 v w' → NfPost 5 w (.returned (.agg #[.string (nfT 5), .int .i64 1, v])) w') := tuck fun v w' h1 h2 => ⟨h1, v, rfl, h2⟩
    have HT : Hid (nfT 5 = { data := #[91, 78, 93, 60, 91, 78, 93, 78, 44, 43, 48, 44, 91, 78, 93, 91, 78, 93, 48, 44, 35, 48, 62] }) := tuck rfl
    have HO : Hid (∀ W, Calls Try.prog 57 #[.string { data := #[91, 78, 93, 60, 91, 78, 93, 78, 44, 43, 48, 44, 91, 78, 93, 91, 78, 93, 48, 44, 35, 48, 62] }, .func (.func 60) #[] #[]] W (OfPost 74 1 (nfT 5) (nfF 5) W)) := tuck fun W => ofOne_any _ _ W
    generalize NfPost 5 w = post at *
    go_enter Try.func33, Try.ntmps33
    go_wp2_with fail
    refine (HO.out _).mono ?_
    rintro e w1 ⟨hb, g, rfl, hg0, hg, hc⟩
    have HB := tuck (bAfter hz hb)
    have hzz : (w.alloc (.cells #[.string { data := #[] }, .int .i64 0, .nilFunc] 50)).heap.size = w.heap.size + 1 := by simp
    have HNE : Hid (g ≠ w.heap.size) := tuck (by omega)
    have HC := tuck (And.intro hg hc)
    obtain ⟨z, c0, c1, c2, cf⟩ := ((FBox.new w { data := #[] } 0 .nilFunc).below hb).facts
    clear hg0 hg hc hb hzz
    rw [HT.out] at HP ⊢
    go_wp2_with fail
    have HNC := nf_cell (gz := w.heap.size) (y0 := .string { data := #[91, 78, 93, 60, 91, 78, 93, 78, 44, 43, 48, 44, 91, 78, 93, 91, 78, 93, 48, 44, 35, 48, 62] }) (y1 := .int .i64 1) (y2 := .func (.func 74) #[] #[.pointer (some ⟨g, 0, none⟩)]) HC.out HNE.out
    refine bodyPost_ret (v := .agg #[.string { data := #[91, 78, 93, 60, 91, 78, 93, 78, 44, 43, 48, 44, 91, 78, 93, 91, 78, 93, 48, 44, 35, 48, 62] }, .int .i64 1, .func (.func 74) #[] #[.pointer (some ⟨g, 0, none⟩)]]) (by simp [results, Try.results33, go_sem, *]) rfl (HP.out _ _ (bSet3 HB.out (Nat.le_refl _) _ _ _ _ _ _) ⟨fun h => absurd h (by decide), fun h => absurd h (by decide), fun _ => ⟨g, rfl, HNC⟩⟩)
  by_cases h6 : f = 6
  · subst h6
    have HP : Hid (∀ v w', Below w.heap.size w w' → NfVal 6 v w' → NfPost 6 w (.returned (.agg #[.string (nfT 6), .int .i64 1, v])) w') := tuck fun v w' h1 h2 => ⟨h1, v, rfl, h2⟩
    have HT : Hid (nfT 6 = { data := #[91, 78, 93, 60, 91, 78, 93, 78, 44, 48, 44, 91, 78, 93, 91, 78, 93, 43, 43, 35, 48, 44, 35, 48, 62] }) := tuck rfl
    have HO : Hid (∀ W, Calls Try.prog 57 #[.string { data := #[91, 78, 93, 60, 91, 78, 93, 78, 44, 48, 44, 91, 78, 93, 91, 78, 93, 43, 43, 35, 48, 44, 35, 48, 62] }, .func (.func 61) #[] #[]] W (OfPost 74 1 (nfT 6) (nfF 6) W)) := tuck fun W => ofOne_any _ _ W
    generalize NfPost 6 w = post at *
    go_enter Try.func33, Try.ntmps33
    go_wp2_with fail
    refine (HO.out _).mono ?_
    rintro e w1 ⟨hb, g, rfl, hg0, hg, hc⟩
    have HB := tuck (bAfter hz hb)
    have hzz : (w.alloc (.cells #[.string { data := #[] }, .int .i64 0, .nilFunc] 50)).heap.size = w.heap.size + 1 := by simp
    have HNE : Hid (g ≠ w.heap.size) := tuck (by omega)
    have HC := tuck (And.intro hg hc)
    obtain ⟨z, c0, c1, c2, cf⟩ := ((FBox.new w { data := #[] } 0 .nilFunc).below hb).facts
    clear hg0 hg hc hb hzz
    rw [HT.out] at HP ⊢
    go_wp2_with fail
    have HNC := nf_cell (gz := w.heap.size) (y0 := .string { data := #[91, 78, 93, 60, 91, 78, 93, 78, 44, 48, 44, 91, 78, 93, 91, 78, 93, 43, 43, 35, 48, 44, 35, 48, 62] }) (y1 := .int .i64 1) (y2 := .func (.func 74) #[] #[.pointer (some ⟨g, 0, none⟩)]) HC.out HNE.out
    refine bodyPost_ret (v := .agg #[.string { data := #[91, 78, 93, 60, 91, 78, 93, 78, 44, 48, 44, 91, 78, 93, 91, 78, 93, 43, 43, 35, 48, 44, 35, 48, 62] }, .int .i64 1, .func (.func 74) #[] #[.pointer (some ⟨g, 0, none⟩)]]) (by simp [results, Try.results33, go_sem, *]) rfl (HP.out _ _ (bSet3 HB.out (Nat.le_refl _) _ _ _ _ _ _) ⟨fun h => absurd h (by decide), fun h => absurd h (by decide), fun _ => ⟨g, rfl, HNC⟩⟩)
  by_cases h7 : f = 7
  · subst h7
    have HP : Hid (∀ w', Below w.heap.size w w' → NfPost 7 w (.returned (.agg #[.string { data := #[91, 40, 78, 62, 78, 41, 93, 91, 78, 93, 40, 35, 49, 32, 40, 35, 49, 32, 35, 48, 41, 41] }, .int .i64 (-1), .nilFunc])) w') := tuck fun w' h1 => ⟨h1, .nilFunc, rfl, fun _ => rfl, fun h => absurd h (by decide), fun h => absurd h (by decide)⟩
    generalize NfPost 7 w = post at *
    go_enter Try.func33, Try.ntmps33
    go_wp2_with fail
    refine bodyPost_ret (v := .agg #[.string { data := #[91, 40, 78, 62, 78, 41, 93, 91, 78, 93, 40, 35, 49, 32, 40, 35, 49, 32, 35, 48, 41, 41] }, .int .i64 (-1), .nilFunc]) (by simp [results, Try.results33, go_sem]) rfl (HP.out _ (below1 _ _))
  · have HP : Hid (∀ w', Below w.heap.size w w' → NfPost f w (.returned (.agg #[.string { data := #[] }, .int .i64 (-1), .nilFunc])) w') := tuck fun w' hbb => by
      have hA : nfA f = -1 := by simp [nfA, h1, h2, h3, h4, h5, h6]
      have hT : nfT f = { data := #[] } := by simp [nfT, h1, h2, h3, h4, h5, h6, h7]
      refine ⟨hbb, .nilFunc, by rw [hA, hT], fun _ => rfl, fun h => ?_, fun h => ?_⟩
      · rw [hA] at h; exact absurd h (by decide)
      · rw [hA] at h; exact absurd h (by decide)
    generalize NfPost f w = post at *
    go_enter Try.func33, Try.ntmps33
    go_wp2_with fail
    refine bodyPost_ret (v := .agg #[.string { data := #[] }, .int .i64 (-1), .nilFunc]) (by simp [results, Try.results33, go_sem]) rfl (HP.out _ (below1 _ _))


end Go.Proofs.Ytjhjnkeildeedaa
