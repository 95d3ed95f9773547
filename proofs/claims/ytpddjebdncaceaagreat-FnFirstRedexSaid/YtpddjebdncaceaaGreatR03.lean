/-
  Draw, Grow.
-/
import Derived.Test.YtpddjebdncaceaaGreatR02
import Derived.BigQuiet
import Derived.Deep.AppendLies
import Derived.Deep.QuietTactic
import Derived.Laws.AppendOwn
import Derived.OwnWalk
import Derived.ProofKit
import Derived.Test.YtpddjebdncaceaaGreatProg
import Derived.WalkSpells
namespace Go.Proofs.YtpddjebdncaceaaGreat
open Go.RowKit
theorem info_termG : (Tryz.prog.info? 34).map (fun i => (i.zero, i.size, i.bytes)) = some (some (.agg #[.int .i64 0, .int .i64 0, .slice none 0 0]), 3, 40) := by kernel_rfl
theorem grown_none {w w' : World} (hb : Below w.heap.size w w') : w.grownBy w' none := ⟨hb.os, hb.tape, hb.output, hb.size, fun k hk _ => hb.block k hk⟩
theorem cellsL_append : ∀ a b : List (Tm × Value), cellsL (a ++ b) = cellsL a ++ cellsL b
 | [], b => rfl
 | (t, s) :: a, b => by simp only [List.cons_append, cellsL, cellsL_append a b]
def RowG (base : Nat) (l : List Tm) (v : Value) (F : List Nat) (w : World) : Prop :=
 ∃ rs : List (Tm × Value × List Nat), rs.map (·.1) = l ∧ F = rs.flatMap (·.2.2) ∧ w.ownsRow base 34 3 v l.length (cellsL (rs.map fun x => (x.1, x.2.1))) ∧ (∀ x ∈ rs, SlOwn w x.1.kids x.2.1 x.2.2) ∧ F.Nodup ∧
  (∀ g ∈ F, base ≤ g ∧ g < w.heap.size ∧ v.ownBlock ≠ some g)
theorem RowG.nil (base : Nat) (w : World) : RowG base [] (.slice none 0 0) [] w :=
 ⟨[], rfl, rfl, World.ownsRow_nil _ _ _ _, fun x h => (by cases h), List.nodup_nil, fun g h => (by cases h)⟩
theorem RowG.form {base : Nat} {l : List Tm} {v : Value} {F : List Nat} {w : World} (h : RowG base l v F w) : ∃ a cap, v = .slice a l.length cap := by
 obtain ⟨rs, -, -, h, -⟩ := h
 rcases h.2 with ⟨h1, h2⟩ | ⟨g, cap, _, h1, _⟩
 ·exact ⟨none, 0, by rw [h1, h2]⟩
 ·exact ⟨_, _, h1⟩
theorem RowG.lt {base : Nat} {l : List Tm} {v : Value} {F : List Nat} {w : World} (h : RowG base l v F w) : ∀ g, v.ownBlock = some g → base ≤ g ∧ g < w.heap.size := by
 obtain ⟨rs, -, -, h, -⟩ := h
 exact h.lt
theorem RowG.flt {base : Nat} {l : List Tm} {v : Value} {F : List Nat} {w : World} (h : RowG base l v F w) : ∀ g ∈ F, base ≤ g ∧ g < w.heap.size ∧ v.ownBlock ≠ some g := by
 obtain ⟨rs, -, -, -, -, -, h6⟩ := h
 exact h6
theorem RowG.keep {base : Nat} {l : List Tm} {v : Value} {F : List Nat} {w w' : World} (h : RowG base l v F w) (hz : w.heap.size ≤ w'.heap.size) (hk : ∀ g, (v.ownBlock = some g ∨ g ∈ F) → w'.heap[g]? = w.heap[g]?) : RowG base l v F w' := by
 obtain ⟨rs, h1, h2, h3, h4, h5, h6⟩ := h
 refine ⟨rs, h1, h2, ⟨h3.1, ?_⟩, fun x hx => (h4 x hx).keep fun g hg => SameAt.of_block (hk g (Or.inr ?_)), h5, fun g hg => ⟨(h6 g hg).1, by have := (h6 g hg).2.1; omega, (h6 g hg).2.2⟩⟩
 ·rcases h3.2 with h | ⟨g, cap, cur, e, r1, r2, r3⟩
  ·exact Or.inl h
  ·exact Or.inr ⟨g, cap, cur, e, r1, (hk g (Or.inl (by rw [e]; rfl))).trans r2, r3⟩
 ·rw [h2]
  exact List.mem_flatMap.2 ⟨x, hx, hg⟩
theorem RowG.below {base : Nat} {l : List Tm} {v : Value} {F : List Nat} {w w' : World} (h : RowG base l v F w) (hb : Below w.heap.size w w') : RowG base l v F w' :=
 h.keep hb.size fun g hg => by
  rcases hg with hg | hg
  ·exact hb.block g (h.lt g hg).2
  ·obtain ⟨rs, -, -, -, -, -, h6⟩ := h
   exact hb.block g (h6 g hg).2.1
theorem RowG.setCell {base : Nat} {l : List Tm} {v : Value} {F : List Nat} {w : World} (h : RowG base l v F w) {p : Addr} (hp : p.block < base) (u : Value) : RowG base l v F (w.setCell p u) :=
 h.keep (by simp [World.setCell]) fun g hg => by
  refine Below.heap_setCell w p u g fun e => ?_
  rcases hg with hg | hg
  ·have := (h.lt g hg).1; omega
  ·obtain ⟨rs, -, -, -, -, -, h6⟩ := h
   have := (h6 g hg).1; omega
theorem RowG.push {base : Nat} {l : List Tm} {v v' : Value} {F F2 : List Nat} {W w1 : World} {t : Tm} {s : Value} (h : RowG base l v F W) (hs : SlOwn W t.kids s F2) (hnd : F2.Nodup) (hF2 : ∀ g ∈ F2, base ≤ g ∧ g < W.heap.size ∧ g ∉ F ∧ v.ownBlock ≠ some g)
  (hown : ∀ xs, W.ownsRow base 34 3 v l.length xs → w1.ownsRow base 34 3 v' (l.length + 1) (xs ++ [.int .i64 t.kind, .int .i64 t.num, s])) (hgrow : W.grownBy w1 v.ownBlock) (hat : v'.ownBlock = v.ownBlock ∨ v'.ownBlock = some W.heap.size) :
  RowG base (l ++ [t]) v' (F ++ F2) w1 := by
 obtain ⟨rs, h1, h2, h3, h4, h5, h6⟩ := h
 have hsame : ∀ g, g < W.heap.size → v.ownBlock ≠ some g → SameAt W w1 g := fun g hg hn => SameAt.of_block (hgrow.block g hg (fun e => hn e.symm))
 have hFlt : ∀ x ∈ rs, ∀ g ∈ x.2.2, g ∈ F := fun x hx g hg => by rw [h2]; exact List.mem_flatMap.2 ⟨x, hx, hg⟩
 refine ⟨rs ++ [(t, s, F2)], by simp [h1], by simp [h2], ?_, fun x hx => ?_, ?_, fun g hg => ?_⟩
 ·have := hown _ h3
  rw [List.map_append, cellsL_append, List.length_append]
  simpa [cellsL] using this
 ·rcases List.mem_append.1 hx with hx | hx
  ·exact (h4 x hx).keep fun g hg => hsame g (h6 g (hFlt x hx g hg)).2.1 (h6 g (hFlt x hx g hg)).2.2
  ·simp only [List.mem_singleton] at hx
   subst hx
   exact hs.keep fun g hg => hsame g (hF2 g hg).2.1 (hF2 g hg).2.2.2
 ·refine List.nodup_append.2 ⟨h5, hnd, fun a ha b hb e => ?_⟩
  exact (hF2 b hb).2.2.1 (e ▸ ha)
 ·have hz := hgrow.size
  have key : base ≤ g ∧ g < W.heap.size ∧ v.ownBlock ≠ some g := by
   rcases List.mem_append.1 hg with hg | hg
   ·exact h6 g hg
   ·exact ⟨(hF2 g hg).1, (hF2 g hg).2.1, (hF2 g hg).2.2.2⟩
  refine ⟨key.1, by omega, fun e => ?_⟩
  rcases hat with hat | hat
  ·exact key.2.2 (hat ▸ e)
  ·rw [hat] at e
   simp at e
   omega
theorem RowG.done {base : Nat} {l : List Tm} {v : Value} {F : List Nat} {w : World} (h : RowG base l v F w) (hl : l.length ≤ maxLen) : ∃ G, SlOwn w l v G ∧ G.Nodup ∧ ∀ g ∈ G, base ≤ g ∧ g < w.heap.size := by
 obtain ⟨rs, h1, h2, h3, h4, h5, h6⟩ := h
 have hrow := h3
 rcases h3.2 with ⟨e1, e2⟩ | ⟨g, cap, cur, rfl, r1, r2, r3⟩
 ·have : l = [] := List.length_eq_zero_iff.1 e2
  subst this
  subst e1
  exact ⟨[], SlOwn.nil _ _ _, List.nodup_nil, fun g h => by cases h⟩
 ·obtain ⟨b1, b2, b3⟩ := block_of_cells r2
  refine ⟨g :: F, ⟨some ⟨g, 0, none⟩, cap, g, F, rfl, hl, Or.inr ⟨rfl, rfl, b3⟩, fun _ => ?_⟩, List.nodup_cons.2 ⟨fun hg => (h6 g hg).2.2 rfl, h5⟩, fun x hx => ?_⟩
  ·rw [← h1, h2]
   refine RowOwn.of_list (fun j u hu => ?_) h4
   have := hrow.cells (g := g) rfl j u hu
   rw [Nat.zero_add]
   have hadd : (⟨g, 0, none⟩ : Addr).add j = ⟨g, j, none⟩ := by unfold Addr.add; split <;> simp_all
   rwa [hadd] at this
  ·rcases List.mem_cons.1 hx with rfl | hx
   ·exact ⟨r1, b1⟩
   ·exact ⟨(h6 x hx).1, (h6 x hx).2.1⟩
theorem RowG.form' {base q : Nat} {l : List Tm} {v : Value} {F : List Nat} {w : World} (h : RowG base l v F w) (hl : l.length = q) : ∃ a cap, v = .slice a q cap := by
 obtain ⟨a, cap, e⟩ := h.form
 exact ⟨a, cap, by rw [e, hl]⟩
theorem RowG.grow {base q : Nat} {l : List Tm} {v : Value} {F : List Nat} {W : World} (h : RowG base l v F W) (hl : l.length = q) : ∃ xs, W.ownsRow base 34 3 v q xs ∧
  ∀ (v' s : Value) (F2 : List Nat) (w1 : World) (t : Tm), SlOwn W t.kids s F2 → F2.Nodup → (∀ g ∈ F2, base ≤ g ∧ g < W.heap.size ∧ g ∉ F ∧ v.ownBlock ≠ some g) → w1.ownsRow base 34 3 v' (q + 1) (xs ++ [.int .i64 t.kind, .int .i64 t.num, s]) →
   W.grownBy w1 v.ownBlock → (v'.ownBlock = v.ownBlock ∨ v'.ownBlock = some W.heap.size) → RowG base (l ++ [t]) v' (F ++ F2) w1 := by
 subst hl
 have h0 := h
 obtain ⟨rs, h1, h2, h3, h4, h5, h6⟩ := h
 refine ⟨_, h3, fun v' s F2 w1 t a1 a2 a3 a4 a5 a6 => h0.push a1 a2 a3 (fun xs hx => ?_) a5 a6⟩
 have e : xs = cellsL (rs.map fun x => (x.1, x.2.1)) := by
  rcases hx.2 with ⟨e1, e2⟩ | ⟨g, cap, cur, e1, _, r1, _, _, _, r2⟩
  ·have n1 := hx.1
   have n2 := h3.1
   rw [e2] at n1 n2
   exact (List.length_eq_zero_iff.1 (by simpa using n1)).trans (List.length_eq_zero_iff.1 (by simpa using n2)).symm
  ·rcases h3.2 with ⟨f1, f2⟩ | ⟨g', cap', cur', f1, _, q1, _, _, _, q2⟩
   ·rw [e1] at f1
    cases f1
   ·rw [e1] at f1
    injection f1 with f1
    injection f1 with f1
    injection f1 with f1
    subst f1
    rw [r1] at q1
    injection q1 with q1
    injection q1 with q1
    subst q1
    rw [← r2, ← q2]
 rw [e]
 exact a4
end Go.Proofs.YtpddjebdncaceaaGreat
namespace Go.Proofs.YtpddjebdncaceaaGreat
open Go.RowKit
theorem xor_pos {x y : Int} (hx : 0 ≤ x) (hx2 : x < 9223372036854775808) (hy : 0 ≤ y) (hy2 : y < 9223372036854775808) : 0 ≤ bits .xor .i64 x y := by
 obtain ⟨a, rfl⟩ : ∃ a : Nat, x = a := ⟨x.toNat, by omega⟩
 obtain ⟨b, rfl⟩ : ∃ b : Nat, y = b := ⟨y.toNat, by omega⟩
 have h1 : (BitVec.ofInt 64 (a : Int)).toNat = a := by rw [BitVec.ofInt_natCast, BitVec.toNat_ofNat]; exact Nat.mod_eq_of_lt (by omega)
 have h2 : (BitVec.ofInt 64 (b : Int)).toNat = b := by rw [BitVec.ofInt_natCast, BitVec.toNat_ofNat]; exact Nat.mod_eq_of_lt (by omega)
 have h3 : a ^^^ b < 2 ^ 63 := Nat.xor_lt_two_pow (by omega) (by omega)
 show 0 ≤ IntKind.i64.wrap ((BitVec.ofInt 64 (a : Int) ^^^ BitVec.ofInt 64 (b : Int)).toNat : Int)
 rw [BitVec.toNat_xor, h1, h2, IntKind.wrap_i64]
 omega
def Bytes (U : Nat → Int) (a : Option Addr) (b o len : Nat) (w : World) : Prop := (0 < len → a = some ⟨b, o, none⟩) ∧ ∀ i, i < len → w.cell? ⟨b, o + i, none⟩ = some (.int .u8 (U i)) ∧ 0 ≤ U i ∧ U i ≤ 255
def Rd (g : Nat) (a : Option Addr) (len cap p : Nat) (w : World) : Prop := w.heap[g]? = some (.cells #[.slice a len cap, .int .i64 p] 153 (0, 0))
theorem Rd.facts {g : Nat} {a : Option Addr} {len cap p : Nat} {w : World} (h : Rd g a len cap p w) : g < w.heap.size ∧ w.cell? ⟨g, 0, none⟩ = some (.slice a len cap) ∧ w.cell? ⟨g, 1, none⟩ = some (.int .i64 p) ∧ ∀ i, w.frozen? ⟨g, i, none⟩ = false := by
 obtain ⟨h1, h2, h3⟩ := block_of_cells h
 exact ⟨h1, h2 0, h2 1, h3⟩
theorem Rd.below {g : Nat} {a : Option Addr} {len cap p : Nat} {w w' : World} (h : Rd g a len cap p w) (hb : Below w.heap.size w w') : Rd g a len cap p w' := (hb.block g h.facts.1).trans h
theorem Rd.set {g : Nat} {a : Option Addr} {len cap p q : Nat} {w : World} (h : Rd g a len cap p w) : Rd g a len cap q (w.setCell ⟨g, 1, none⟩ (.int .i64 q)) := by
 have := block_set h 1 (.int .i64 q)
 simpa [Rd] using this
theorem Bytes.cell {U : Nat → Int} {a : Option Addr} {b o len : Nat} {w : World} (h : Bytes U a b o len w) {i : Nat} (hi : i < len) : a = some ⟨b, o, none⟩ ∧ w.cell? ⟨b, o + i, none⟩ = some (.int .u8 (U i)) ∧ 0 ≤ U i ∧ U i ≤ 255 :=
 ⟨h.1 (by omega), h.2 i hi⟩
def PickPost (g : Nat) (a : Option Addr) (len cap p : Nat) (n : Int) (w : World) (e : Ending) (w' : World) : Prop := ∃ v : Int, e = .returned (.int .i64 v) ∧ 0 ≤ v ∧ v < n ∧ Rd g a len cap (p + 1) w' ∧ Only g w w'
set_option maxRecDepth 100000 in
theorem pick_any {U : Nat → Int} {g : Nat} {a : Option Addr} {b o len cap p : Nat} {n : Int} (w : World) (hlen : len ≤ 2000) (hp : p ≤ 1000000) (hn : 1 ≤ n) (hn2 : n ≤ 1000000) (hrd : Rd g a len cap p w) (hby : Bytes U a b o len w) (hbg : 0 < len → b ≠ g) :
  Calls Tryz.prog 107 #[.pointer (some ⟨g, 0, none⟩), .int .i64 n] w (PickPost g a len cap p n w) := by
 obtain ⟨hg, c0, c1, cf⟩ := hrd.facts
 have HP : Hid (∀ (v : Int) (k : Nat), 0 ≤ v → v < n → PickPost g a len cap p n w (.returned (.int .i64 v)) ((w.setCell ⟨g, 1, none⟩ (.int .i64 ((p : Int) + 1))).drewN k)) := fun v k h1 h2 =>
  ⟨v, rfl, h1, h2, by have := hrd.set (q := p + 1); rw [Int.natCast_succ] at this; exact this, ((Only.refl g w).setCell (Or.inl rfl) _).drewN k⟩
 have HP0 : Hid (∀ (v : Int), 0 ≤ v → v < n → PickPost g a len cap p n w (.returned (.int .i64 v)) (w.setCell ⟨g, 1, none⟩ (.int .i64 ((p : Int) + 1)))) := fun v h1 h2 =>
  ⟨v, rfl, h1, h2, by have := hrd.set (q := p + 1); rw [Int.natCast_succ] at this; exact this, (Only.refl g w).setCell (Or.inl rfl) _⟩
 generalize PickPost g a len cap p n w = post at *
 clear hrd
 have hn3 : ¬ n < 1 := by omega
 by_cases h0 : len = 0
 ·subst h0
  go_enter Tryz.func107, Tryz.ntmps107
  go_wp2
  exact HP0.out 0 (by omega) (by omega)
 have h0' : ((len : Int) == 0) = false := by simpa using h0
 by_cases hlt : p < len
 ·have hlti : ((p : Int) < (len : Int)) := by omega
  obtain ⟨rfl, d, u0, u1⟩ := hby.cell hlt
  have d' : (w.setCell ⟨g, 1, none⟩ (.int .i64 ((p : Int) + 1))).cell? ⟨b, o + p, none⟩ = some (.int .u8 (U p)) := (World.cell?_setCell_other _ _ _ _ (fun e => by injection e with e; exact hbg (by omega) e.symm)).trans d
  generalize U p = u at *
  clear hby h0 d
  go_enter Tryz.func107, Tryz.ntmps107
  go_wp2
  exact HP0.out _ (Int.emod_nonneg _ (by omega)) (Int.emod_lt_of_pos _ (by omega))
 ·have hge : ¬ ((p : Int) < (len : Int)) := by omega
  have hp0 : (0 : Int) ≤ (p : Int) % (len : Int) := Int.emod_nonneg _ (by omega)
  have hp1 : (p : Int) % (len : Int) < (len : Int) := Int.emod_lt_of_pos _ (by omega)
  have hq0 : (0 : Int) ≤ ((p : Int) * 7 + 3) % (len : Int) := Int.emod_nonneg _ (by omega)
  have hq1 : ((p : Int) * 7 + 3) % (len : Int) < (len : Int) := Int.emod_lt_of_pos _ (by omega)
  have hd0 : (0 : Int) ≤ (p : Int) / (len : Int) := Int.ediv_nonneg (by omega) (by omega)
  have hd1 : (p : Int) / (len : Int) ≤ (p : Int) := Int.ediv_le_self _ (by omega)
  obtain ⟨rfl, d, u0, u1⟩ := hby.cell (i := p % len) (Nat.mod_lt _ (by omega))
  obtain ⟨_, d2, v0, v1⟩ := hby.cell (i := (p * 7 + 3) % len) (Nat.mod_lt _ (by omega))
  have d' : (w.setCell ⟨g, 1, none⟩ (.int .i64 ((p : Int) + 1))).cell? ⟨b, o + p % len, none⟩ = some (.int .u8 (U (p % len))) := (World.cell?_setCell_other _ _ _ _ (fun e => by injection e with e; exact hbg (by omega) e.symm)).trans d
  have d2' : (w.setCell ⟨g, 1, none⟩ (.int .i64 ((p : Int) + 1))).cell? ⟨b, o + (p * 7 + 3) % len, none⟩ = some (.int .u8 (U ((p * 7 + 3) % len))) := (World.cell?_setCell_other _ _ _ _ (fun e => by injection e with e; exact hbg (by omega) e.symm)).trans d2
  generalize U (p % len) = u at *
  generalize U ((p * 7 + 3) % len) = v at *
  clear hby h0 d d2
  go_enter Tryz.func107, Tryz.ntmps107
  go_wp2_with fail
  go_quiet (fail)
  go_wp2_with fail
  exact HP.out _ nq (Int.tmod_nonneg _ (xor_pos (by omega) (by omega) (by omega) (by omega))) (Int.tmod_lt_of_pos _ (by omega))
theorem Bytes.only {U : Nat → Int} {a : Option Addr} {b o len g : Nat} {w w' : World} (h : Bytes U a b o len w) (k : Only g w w') (hg : 0 < len → b ≠ g) : Bytes U a b o len w' :=
 ⟨h.1, fun i hi => ⟨(k.cell (p := ⟨b, o + i, none⟩) (World.block_lt_of_cell? w _ (h.2 i hi).1) (hg (by omega))).trans (h.2 i hi).1, (h.2 i hi).2⟩⟩
theorem Bytes.below {U : Nat → Int} {a : Option Addr} {b o len : Nat} {w w' : World} (h : Bytes U a b o len w) (k : Below w.heap.size w w') : Bytes U a b o len w' :=
 ⟨h.1, fun i hi => ⟨(k.cell (p := ⟨b, o + i, none⟩) (World.block_lt_of_cell? w _ (h.2 i hi).1)).trans (h.2 i hi).1, (h.2 i hi).2⟩⟩
def DInts (N : Nat → Int) (b o n : Nat) (w : World) : Prop := ∀ i, i < n → w.cell? ⟨b, o + i, none⟩ = some (.int .i64 (N i))
theorem ints_new (l : List Int) (w : World) (T : TypeId) : DInts (fun i => l.getD i 0) w.heap.size 0 l.length (w.alloc (.cells (l.map (Value.int .i64)).toArray T)) := by
 intro i hi
 rw [Nat.zero_add, World.cell?_alloc_new]
 simp [hi]
def NumDPost (g : Nat) (a : Option Addr) (len cap p : Nat) (N : Nat → Int) (n : Nat) (w : World) (e : Ending) (w' : World) : Prop := ∃ i : Nat, i < n ∧ e = .returned (.int .i64 (N i)) ∧ Rd g a len cap (p + 1) w' ∧ Only g w w'
theorem num_any {U : Nat → Int} {N : Nat → Int} {g : Nat} {a : Option Addr} {b o len cap p : Nat} {b2 o2 n c2 : Nat} (w : World) (hlen : len ≤ 2000) (hp : p ≤ 1000000) (hn : 1 ≤ n) (hn2 : n ≤ 1000000) (hrd : Rd g a len cap p w) (hby : Bytes U a b o len w) (hbg : 0 < len → b ≠ g) (hi : DInts N b2 o2 n w) (hb2 : b2 ≠ g) :
  Calls Tryz.prog 108 #[.pointer (some ⟨g, 0, none⟩), .slice (some ⟨b2, o2, none⟩) n c2] w (NumDPost g a len cap p N n w) := by
 have HP : Hid (∀ (i : Nat) w', i < n → Rd g a len cap (p + 1) w' → Only g w w' → NumDPost g a len cap p N n w (.returned (.int .i64 (N i))) w') := fun i w' h1 h2 h3 => ⟨i, h1, rfl, h2, h3⟩
 have HK := tuck (pick_any (n := (n : Int)) w hlen hp (by omega) (by omega) hrd hby hbg)
 have HI := tuck hi
 generalize NumDPost g a len cap p N n w = post at *
 clear hrd hby hi
 go_enter Tryz.func108, Tryz.ntmps108
 go_wp2_with fail
 refine HK.out.mono ?_
 rintro e w1 ⟨v, rfl, h0, h1, hrd, ho⟩
 obtain ⟨i, rfl⟩ : ∃ i : Nat, v = i := ⟨v.toNat, by omega⟩
 have hin : i < n := by omega
 have hc := HI.out i hin
 have hc1 : w1.cell? ⟨b2, o2 + i, none⟩ = some (.int .i64 (N i)) := (ho.cell (p := ⟨b2, o2 + i, none⟩) (World.block_lt_of_cell? w _ hc) hb2).trans hc
 have HR := tuck hrd
 have HO := tuck ho
 clear hc hrd ho HI
 have HPI := tuck (HP.out i)
 generalize N i = x at *
 go_wp2
 exact HPI.out _ hin HR.out HO.out
def OpenPost (U : Nat → Int) (b o : Nat) (w : World) (e : Ending) (w' : World) : Prop := ∃ (a : Option Addr) (len cap : Nat), e = .returned (.pointer (some ⟨w.heap.size, 0, none⟩)) ∧ len ≤ 2000 ∧ (0 < len → b < w.heap.size) ∧ Rd w.heap.size a len cap 0 w' ∧ Bytes U a b o len w' ∧ Below w.heap.size w w' ∧ w.heap.size < w'.heap.size
theorem open_any {U : Nat → Int} {a : Option Addr} {b o len cap : Nat} (w : World) (hlen : len ≤ 140737488355328) (hcap : len ≤ cap) (hby : Bytes U a b o len w) : Calls Tryz.prog 75 #[.slice a len cap] w (OpenPost U b o w) := by
 have HP : Hid (∀ l, l ≤ len → l ≤ 2000 → OpenPost U b o w (.returned (.pointer (some ⟨w.heap.size, 0, none⟩))) (w.alloc (.cells #[.slice a l cap, .int .i64 0] 153))) := fun l h1 h2 => by
  refine ⟨a, l, cap, rfl, h2, fun h0 => World.block_lt_of_cell? w _ (hby.2 0 (by omega)).1, heap_new _ _, ⟨fun h => hby.1 (by omega), fun i hi => ⟨?_, (hby.2 i (by omega)).2⟩⟩, below1 _ _, by simp⟩
  have := (hby.2 i (by omega)).1
  exact ((below1 w _).cell (p := ⟨b, o + i, none⟩) (World.block_lt_of_cell? w _ this)).trans this
 generalize OpenPost U b o w = post at *
 clear hby
 by_cases h : 2000 < len
 ·have h' : (2000 : Int) < (len : Int) := by omega
  have hc : (2000 : Int) ≤ (cap : Int) := by omega
  go_enter Tryz.func75, Tryz.ntmps75
  go_wp2
  exact HP.out 2000 (by omega) (by omega)
 ·have h' : ¬ (2000 : Int) < (len : Int) := by omega
  go_enter Tryz.func75, Tryz.ntmps75
  go_wp2
  exact HP.out len (by omega) (by omega)
end Go.Proofs.YtpddjebdncaceaaGreat
