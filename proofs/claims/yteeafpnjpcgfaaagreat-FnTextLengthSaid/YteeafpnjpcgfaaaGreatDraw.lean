/-
  The model's source of draws: pick, num, l19Open. What is said: an answer within its bounds.
-/
import Derived.Test.YteeafpnjpcgfaaaGreatRow
import Derived.Test.YteeafpnjpcgfaaaGreatProg
import Derived.WalkSpells
import Derived.ProofKit
import Derived.Deep.QuietTactic
import Derived.BigQuiet
namespace Go.Proofs.YteeafpnjpcgfaaaGreat
open Go.RowKit

/-- '^' of two numbers that are not negative is none. -/
theorem xor_pos {x y : Int} (hx : 0 ≤ x) (hx2 : x < 9223372036854775808) (hy : 0 ≤ y) (hy2 : y < 9223372036854775808) : 0 ≤ bits .xor .i64 x y := by
  obtain ⟨a, rfl⟩ : ∃ a : Nat, x = a := ⟨x.toNat, by omega⟩
  obtain ⟨b, rfl⟩ : ∃ b : Nat, y = b := ⟨y.toNat, by omega⟩
  have h1 : (BitVec.ofInt 64 (a : Int)).toNat = a := by rw [BitVec.ofInt_natCast, BitVec.toNat_ofNat]; exact Nat.mod_eq_of_lt (by omega)
  have h2 : (BitVec.ofInt 64 (b : Int)).toNat = b := by rw [BitVec.ofInt_natCast, BitVec.toNat_ofNat]; exact Nat.mod_eq_of_lt (by omega)
  have h3 : a ^^^ b < 2 ^ 63 := Nat.xor_lt_two_pow (by omega) (by omega)
  show 0 ≤ IntKind.i64.wrap ((BitVec.ofInt 64 (a : Int) ^^^ BitVec.ofInt 64 (b : Int)).toNat : Int)
  rw [BitVec.toNat_xor, h1, h2, IntKind.wrap_i64]
  omega

/-- The bytes of a slice. -/
def Bytes (U : Nat → Int) (a : Option Addr) (b o len : Nat) (w : World) : Prop := (0 < len → a = some ⟨b, o, none⟩) ∧ ∀ i, i < len → w.cell? ⟨b, o + i, none⟩ = some (.int .u8 (U i)) ∧ 0 ≤ U i ∧ U i ≤ 255
/-- The reader in block g: its slice and how far it has come. -/
def Rd (g : Nat) (a : Option Addr) (len cap p : Nat) (w : World) : Prop := w.heap[g]? = some (.cells #[.slice a len cap, .int .i64 p] 171 (0, 0))
theorem Rd.facts {g : Nat} {a : Option Addr} {len cap p : Nat} {w : World} (h : Rd g a len cap p w) : g < w.heap.size ∧ w.cell? ⟨g, 0, none⟩ = some (.slice a len cap) ∧ w.cell? ⟨g, 1, none⟩ = some (.int .i64 p) ∧ ∀ i, w.frozen? ⟨g, i, none⟩ = false := by
  obtain ⟨h1, h2, h3⟩ := block_of_cells h
  exact ⟨h1, h2 0, h2 1, h3⟩
theorem Rd.below {g : Nat} {a : Option Addr} {len cap p : Nat} {w w' : World} (h : Rd g a len cap p w) (hb : Below w.heap.size w w') : Rd g a len cap p w' := (hb.block g h.facts.1).trans h
theorem Rd.set {g : Nat} {a : Option Addr} {len cap p q : Nat} {w : World} (h : Rd g a len cap p w) : Rd g a len cap q (w.setCell ⟨g, 1, none⟩ (.int .i64 q)) := by
  have := block_set h 1 (.int .i64 q)
  simpa [Rd] using this
theorem Bytes.cell {U : Nat → Int} {a : Option Addr} {b o len : Nat} {w : World} (h : Bytes U a b o len w) {i : Nat} (hi : i < len) : a = some ⟨b, o, none⟩ ∧ w.cell? ⟨b, o + i, none⟩ = some (.int .u8 (U i)) ∧ 0 ≤ U i ∧ U i ≤ 255 :=
  ⟨h.1 (by omega), h.2 i hi⟩

/-- What pick leaves. -/
def PickPost (g : Nat) (a : Option Addr) (len cap p : Nat) (n : Int) (w : World) (e : Ending) (w' : World) : Prop := ∃ v : Int, e = .returned (.int .i64 v) ∧ 0 ≤ v ∧ v < n ∧ Rd g a len cap (p + 1) w' ∧ Only g w w'

set_option maxRecDepth 100000 in
theorem pick_any {U : Nat → Int} {g : Nat} {a : Option Addr} {b o len cap p : Nat} {n : Int} (w : World) (hlen : len ≤ 2000) (hp : p ≤ 1000000) (hn : 1 ≤ n) (hn2 : n ≤ 1000000) (hrd : Rd g a len cap p w) (hby : Bytes U a b o len w) (hbg : 0 < len → b ≠ g) :
    Calls Tryz.prog 62 #[.pointer (some ⟨g, 0, none⟩), .int .i64 n] w (PickPost g a len cap p n w) := by
  obtain ⟨hg, c0, c1, cf⟩ := hrd.facts
  have HP : Hid (∀ (v : Int) (k : Nat), 0 ≤ v → v < n → PickPost g a len cap p n w (.returned (.int .i64 v)) ((w.setCell ⟨g, 1, none⟩ (.int .i64 ((p : Int) + 1))).drewN k)) := fun v k h1 h2 =>
    ⟨v, rfl, h1, h2, by have := hrd.set (q := p + 1); rw [Int.natCast_succ] at this; exact this, ((Only.refl g w).setCell (Or.inl rfl) _).drewN k⟩
  have HP0 : Hid (∀ (v : Int), 0 ≤ v → v < n → PickPost g a len cap p n w (.returned (.int .i64 v)) (w.setCell ⟨g, 1, none⟩ (.int .i64 ((p : Int) + 1)))) := fun v h1 h2 =>
    ⟨v, rfl, h1, h2, by have := hrd.set (q := p + 1); rw [Int.natCast_succ] at this; exact this, (Only.refl g w).setCell (Or.inl rfl) _⟩
  generalize PickPost g a len cap p n w = post at *
  clear hrd
  have hn3 : ¬ n < 1 := by omega
  by_cases h0 : len = 0
  · subst h0
    go_enter Tryz.func62, Tryz.ntmps62
    go_wp2
    exact HP0.out 0 (by omega) (by omega)
  have h0' : ((len : Int) == 0) = false := by simpa using h0
  by_cases hlt : p < len
  · have hlti : ((p : Int) < (len : Int)) := by omega
    obtain ⟨rfl, d, u0, u1⟩ := hby.cell hlt
    have d' : (w.setCell ⟨g, 1, none⟩ (.int .i64 ((p : Int) + 1))).cell? ⟨b, o + p, none⟩ = some (.int .u8 (U p)) := (World.cell?_setCell_other _ _ _ _ (fun e => by injection e with e; exact hbg (by omega) e.symm)).trans d
    generalize U p = u at *
    clear hby h0 d
    go_enter Tryz.func62, Tryz.ntmps62
    go_wp2
    exact HP0.out _ (Int.emod_nonneg _ (by omega)) (Int.emod_lt_of_pos _ (by omega))
  · have hge : ¬ ((p : Int) < (len : Int)) := by omega
    have hp0 : (0 : Int) ≤ (p : Int) % (len : Int) := Int.emod_nonneg _ (by omega)
    have hp1 : (p : Int) % (len : Int) < (len : Int) := Int.emod_lt_of_pos _ (by omega)
    have hq0 : (0 : Int) ≤ ((p : Int) * 7 + 3) % (len : Int) := Int.emod_nonneg _ (by omega)
    have hq1 : ((p : Int) * 7 + 3) % (len : Int) < (len : Int) := Int.emod_lt_of_pos _ (by omega)
    have hd0 : (0 : Int) ≤ (p : Int) / (len : Int) := Int.ediv_nonneg (by omega) (by omega)
    have hd1 : (p : Int) / (len : Int) ≤ (p : Int) := Int.ediv_le_self _ (by omega)
    obtain ⟨rfl, d, u0, u1⟩ := hby.cell (i := p % len) (Nat.mod_lt _ (by omega))
    obtain ⟨_, d2, v0, v1⟩ := hby.cell (i := (p * 7 + 3) % len) (Nat.mod_lt _ (by omega))
    have d' : (w.setCell ⟨g, 1, none⟩ (.int .i64 ((p : Int) + 1))).cell? ⟨b, o + p % len, none⟩ = some (.int .u8 (U (p % len))) := (World.cell?_setCell_other _ _ _ _ (fun e => by injection e with e; exact hbg (by omega) e.symm)).trans d
    have d2' : (w.setCell ⟨g, 1, none⟩ (.int .i64 ((p : Int) + 1))).cell? ⟨b, o + (p * 7 + 3) % len, none⟩ = some (.int .u8 (U ((p * 7 + 3) % len))) := (World.cell?_setCell_other _ _ _ _ (fun e => by injection e with e; exact hbg (by omega) e.symm)).trans d2
    generalize U (p % len) = u at *
    generalize U ((p * 7 + 3) % len) = v at *
    clear hby h0 d d2
    go_enter Tryz.func62, Tryz.ntmps62
    go_wp2_with fail
    go_quiet (fail)
    go_wp2_with fail
    exact HP.out _ nq (Int.tmod_nonneg _ (xor_pos (by omega) (by omega) (by omega) (by omega))) (Int.tmod_lt_of_pos _ (by omega))

theorem Bytes.only {U : Nat → Int} {a : Option Addr} {b o len g : Nat} {w w' : World} (h : Bytes U a b o len w) (k : Only g w w') (hg : 0 < len → b ≠ g) : Bytes U a b o len w' :=
  ⟨h.1, fun i hi => ⟨(k.cell (p := ⟨b, o + i, none⟩) (World.block_lt_of_cell? w _ (h.2 i hi).1) (hg (by omega))).trans (h.2 i hi).1, (h.2 i hi).2⟩⟩
theorem Bytes.below {U : Nat → Int} {a : Option Addr} {b o len : Nat} {w w' : World} (h : Bytes U a b o len w) (k : Below w.heap.size w w') : Bytes U a b o len w' :=
  ⟨h.1, fun i hi => ⟨(k.cell (p := ⟨b, o + i, none⟩) (World.block_lt_of_cell? w _ (h.2 i hi).1)).trans (h.2 i hi).1, (h.2 i hi).2⟩⟩

/-- The numbers of a slice. -/
def DInts (N : Nat → Int) (b o n : Nat) (w : World) : Prop := ∀ i, i < n → w.cell? ⟨b, o + i, none⟩ = some (.int .i64 (N i))

theorem ints_new (l : List Int) (w : World) (T : TypeId) : DInts (fun i => l.getD i 0) w.heap.size 0 l.length (w.alloc (.cells (l.map (Value.int .i64)).toArray T)) := by
  intro i hi
  rw [Nat.zero_add, World.cell?_alloc_new]
  simp [hi]

/-- What num leaves: an element. -/
def NumDPost (g : Nat) (a : Option Addr) (len cap p : Nat) (N : Nat → Int) (n : Nat) (w : World) (e : Ending) (w' : World) : Prop := ∃ i : Nat, i < n ∧ e = .returned (.int .i64 (N i)) ∧ Rd g a len cap (p + 1) w' ∧ Only g w w'

theorem num_any {U : Nat → Int} {N : Nat → Int} {g : Nat} {a : Option Addr} {b o len cap p : Nat} {b2 o2 n c2 : Nat} (w : World) (hlen : len ≤ 2000) (hp : p ≤ 1000000) (hn : 1 ≤ n) (hn2 : n ≤ 1000000) (hrd : Rd g a len cap p w) (hby : Bytes U a b o len w) (hbg : 0 < len → b ≠ g) (hi : DInts N b2 o2 n w) (hb2 : b2 ≠ g) :
    Calls Tryz.prog 64 #[.pointer (some ⟨g, 0, none⟩), .slice (some ⟨b2, o2, none⟩) n c2] w (NumDPost g a len cap p N n w) := by
  have HP : Hid (∀ (i : Nat) w', i < n → Rd g a len cap (p + 1) w' → Only g w w' → NumDPost g a len cap p N n w (.returned (.int .i64 (N i))) w') := fun i w' h1 h2 h3 => ⟨i, h1, rfl, h2, h3⟩
  have HK := tuck (pick_any (n := (n : Int)) w hlen hp (by omega) (by omega) hrd hby hbg)
  have HI := tuck hi
  generalize NumDPost g a len cap p N n w = post at *
  clear hrd hby hi
  go_enter Tryz.func64, Tryz.ntmps64
  go_wp2_with fail
  refine HK.out.mono ?_
  rintro e w1 ⟨v, rfl, h0, h1, hrd, ho⟩
  obtain ⟨i, rfl⟩ : ∃ i : Nat, v = i := ⟨v.toNat, by omega⟩
  have hin : i < n := by omega
  have hc := HI.out i hin
  have hc1 : w1.cell? ⟨b2, o2 + i, none⟩ = some (.int .i64 (N i)) := (ho.cell (p := ⟨b2, o2 + i, none⟩) (World.block_lt_of_cell? w _ hc) hb2).trans hc
  have HR := tuck hrd
  have HO := tuck ho
  clear hc hrd ho HI
  have HPI := tuck (HP.out i)
  generalize N i = x at *
  go_wp2
  exact HPI.out _ hin HR.out HO.out

def OpenPost (U : Nat → Int) (b o : Nat) (w : World) (e : Ending) (w' : World) : Prop := ∃ (a : Option Addr) (len cap : Nat), e = .returned (.pointer (some ⟨w.heap.size, 0, none⟩)) ∧ len ≤ 2000 ∧ (0 < len → b < w.heap.size) ∧ Rd w.heap.size a len cap 0 w' ∧ Bytes U a b o len w' ∧ Below w.heap.size w w' ∧ w.heap.size < w'.heap.size

theorem open_any {U : Nat → Int} {a : Option Addr} {b o len cap : Nat} (w : World) (hlen : len ≤ 140737488355328) (hcap : len ≤ cap) (hby : Bytes U a b o len w) : Calls Tryz.prog 61 #[.slice a len cap] w (OpenPost U b o w) := by
  have HP : Hid (∀ l, l ≤ len → l ≤ 2000 → OpenPost U b o w (.returned (.pointer (some ⟨w.heap.size, 0, none⟩))) (w.alloc (.cells #[.slice a l cap, .int .i64 0] 171))) := fun l h1 h2 => by
    refine ⟨a, l, cap, rfl, h2, fun h0 => World.block_lt_of_cell? w _ (hby.2 0 (by omega)).1, heap_new _ _, ⟨fun h => hby.1 (by omega), fun i hi => ⟨?_, (hby.2 i (by omega)).2⟩⟩, below1 _ _, by simp⟩
    have := (hby.2 i (by omega)).1
    exact ((below1 w _).cell (p := ⟨b, o + i, none⟩) (World.block_lt_of_cell? w _ this)).trans this
  generalize OpenPost U b o w = post at *
  clear hby
  by_cases h : 2000 < len
  · have h' : (2000 : Int) < (len : Int) := by omega
    have hc : (2000 : Int) ≤ (cap : Int) := by omega
    go_enter Tryz.func61, Tryz.ntmps61
    go_wp2
    exact HP.out 2000 (by omega) (by omega)
  · have h' : ¬ (2000 : Int) < (len : Int) := by omega
    go_enter Tryz.func61, Tryz.ntmps61
    go_wp2
    exact HP.out len (by omega) (by omega)

end Go.Proofs.YteeafpnjpcgfaaaGreat
