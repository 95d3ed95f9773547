/-
  Draw, View.
-/
import Derived.Test.YtihlbbbajaepoaaGreatR05
import Derived.Test.YtihlbbbajaepoaaGreatR06
import Derived.BigQuiet
import Derived.Deep.QuietTactic
import Derived.ProofKit
import Derived.Test.YtihlbbbajaepoaaGreatProg
import Derived.WalkSpells
namespace Go.Proofs.YtihlbbbajaepoaaGreat
open Go.RowKit
theorem xor_pos {x y : Int} (hx : 0 ≤ x) (hx2 : x < 9223372036854775808) (hy : 0 ≤ y) (hy2 : y < 9223372036854775808) : 0 ≤ bits .xor .i64 x y := by
 obtain ⟨a, rfl⟩ : ∃ a : Nat, x = a := ⟨x.toNat, by omega⟩
 obtain ⟨b, rfl⟩ : ∃ b : Nat, y = b := ⟨y.toNat, by omega⟩
 have h1 : (BitVec.ofInt 64 (a : Int)).toNat = a := by rw [BitVec.ofInt_natCast, BitVec.toNat_ofNat]; exact Nat.mod_eq_of_lt (by omega)
 have h2 : (BitVec.ofInt 64 (b : Int)).toNat = b := by rw [BitVec.ofInt_natCast, BitVec.toNat_ofNat]; exact Nat.mod_eq_of_lt (by omega)
 have h3 : a ^^^ b < 2 ^ 63 := Nat.xor_lt_two_pow (by omega) (by omega)
 show 0 ≤ IntKind.i64.wrap ((BitVec.ofInt 64 (a : Int) ^^^ BitVec.ofInt 64 (b : Int)).toNat : Int)
 rw [BitVec.toNat_xor, h1, h2, IntKind.wrap_i64]
 omega
def Bytes (U : Nat → Int) (a : Option Addr) (b o len : Nat) (w : World) : Prop := (0 < len → a = some ⟨b, o, none⟩) ∧ ∀ i, i < len → w.cell? ⟨b, o + i, none⟩ = some (.int .u8 (U i)) ∧ 0 ≤ U i ∧ U i ≤ 255
def Rd (g : Nat) (a : Option Addr) (len cap p : Nat) (w : World) : Prop := w.heap[g]? = some (.cells #[.slice a len cap, .int .i64 p] 137 (0, 0))
theorem Rd.facts {g : Nat} {a : Option Addr} {len cap p : Nat} {w : World} (h : Rd g a len cap p w) : g < w.heap.size ∧ w.cell? ⟨g, 0, none⟩ = some (.slice a len cap) ∧ w.cell? ⟨g, 1, none⟩ = some (.int .i64 p) ∧ ∀ i, w.frozen? ⟨g, i, none⟩ = false := by
 obtain ⟨h1, h2, h3⟩ := block_of_cells h
 exact ⟨h1, h2 0, h2 1, h3⟩
theorem Rd.below {g : Nat} {a : Option Addr} {len cap p : Nat} {w w' : World} (h : Rd g a len cap p w) (hb : Below w.heap.size w w') : Rd g a len cap p w' := (hb.block g h.facts.1).trans h
theorem Rd.set {g : Nat} {a : Option Addr} {len cap p q : Nat} {w : World} (h : Rd g a len cap p w) : Rd g a len cap q (w.setCell ⟨g, 1, none⟩ (.int .i64 q)) := by
 have := block_set h 1 (.int .i64 q)
 simpa [Rd] using this
theorem Bytes.cell {U : Nat → Int} {a : Option Addr} {b o len : Nat} {w : World} (h : Bytes U a b o len w) {i : Nat} (hi : i < len) : a = some ⟨b, o, none⟩ ∧ w.cell? ⟨b, o + i, none⟩ = some (.int .u8 (U i)) ∧ 0 ≤ U i ∧ U i ≤ 255 :=
 ⟨h.1 (by omega), h.2 i hi⟩
def PickPost (g : Nat) (a : Option Addr) (len cap p : Nat) (n : Int) (w : World) (e : Ending) (w' : World) : Prop := ∃ v : Int, e = .returned (.int .i64 v) ∧ 0 ≤ v ∧ v < n ∧ Rd g a len cap (p + 1) w' ∧ Only g w w'
set_option maxRecDepth 100000 in
theorem pick_any {U : Nat → Int} {g : Nat} {a : Option Addr} {b o len cap p : Nat} {n : Int} (w : World) (hlen : len ≤ 2000) (hp : p ≤ 1000000) (hn : 1 ≤ n) (hn2 : n ≤ 1000000) (hrd : Rd g a len cap p w) (hby : Bytes U a b o len w) (hbg : 0 < len → b ≠ g) :
  Calls Tryz.prog 101 #[.pointer (some ⟨g, 0, none⟩), .int .i64 n] w (PickPost g a len cap p n w) := by
 obtain ⟨hg, c0, c1, cf⟩ := hrd.facts
 have HP : Hid (∀ (v : Int) (k : Nat), 0 ≤ v → v < n → PickPost g a len cap p n w (.returned (.int .i64 v)) ((w.setCell ⟨g, 1, none⟩ (.int .i64 ((p : Int) + 1))).drewN k)) := fun v k h1 h2 =>
  ⟨v, rfl, h1, h2, by have := hrd.set (q := p + 1); rw [Int.natCast_succ] at this; exact this, ((Only.refl g w).setCell (Or.inl rfl) _).drewN k⟩
 have HP0 : Hid (∀ (v : Int), 0 ≤ v → v < n → PickPost g a len cap p n w (.returned (.int .i64 v)) (w.setCell ⟨g, 1, none⟩ (.int .i64 ((p : Int) + 1)))) := fun v h1 h2 =>
  ⟨v, rfl, h1, h2, by have := hrd.set (q := p + 1); rw [Int.natCast_succ] at this; exact this, (Only.refl g w).setCell (Or.inl rfl) _⟩
 generalize PickPost g a len cap p n w = post at *
 clear hrd
 have hn3 : ¬ n < 1 := by omega
 by_cases h0 : len = 0
 ·subst h0
  go_enter Tryz.func101, Tryz.ntmps101
  go_wp2
  exact HP0.out 0 (by omega) (by omega)
 have h0' : ((len : Int) == 0) = false := by simpa using h0
 by_cases hlt : p < len
 ·have hlti : ((p : Int) < (len : Int)) := by omega
  obtain ⟨rfl, d, u0, u1⟩ := hby.cell hlt
  have d' : (w.setCell ⟨g, 1, none⟩ (.int .i64 ((p : Int) + 1))).cell? ⟨b, o + p, none⟩ = some (.int .u8 (U p)) := (World.cell?_setCell_other _ _ _ _ (fun e => by injection e with e; exact hbg (by omega) e.symm)).trans d
  generalize U p = u at *
  clear hby h0 d
  go_enter Tryz.func101, Tryz.ntmps101
  go_wp2
  exact HP0.out _ (Int.emod_nonneg _ (by omega)) (Int.emod_lt_of_pos _ (by omega))
 ·have hge : ¬ ((p : Int) < (len : Int)) := by omega
  have hp0 : (0 : Int) ≤ (p : Int) % (len : Int) := Int.emod_nonneg _ (by omega)
  have hp1 : (p : Int) % (len : Int) < (len : Int) := Int.emod_lt_of_pos _ (by omega)
  have hq0 : (0 : Int) ≤ ((p : Int) * 7 + 3) % (len : Int) := Int.emod_nonneg _ (by omega)
  have hq1 : ((p : Int) * 7 + 3) % (len : Int) < (len : Int) := Int.emod_lt_of_pos _ (by omega)
  have hd0 : (0 : Int) ≤ (p : Int) / (len : Int) := Int.ediv_nonneg (by omega) (by omega)
  have hd1 : (p : Int) / (len : Int) ≤ (p : Int) := Int.ediv_le_self _ (by omega)
  obtain ⟨rfl, d, u0, u1⟩ := hby.cell (i := p % len) (Nat.mod_lt _ (by omega))
  obtain ⟨_, d2, v0, v1⟩ := hby.cell (i := (p * 7 + 3) % len) (Nat.mod_lt _ (by omega))
  have d' : (w.setCell ⟨g, 1, none⟩ (.int .i64 ((p : Int) + 1))).cell? ⟨b, o + p % len, none⟩ = some (.int .u8 (U (p % len))) := (World.cell?_setCell_other _ _ _ _ (fun e => by injection e with e; exact hbg (by omega) e.symm)).trans d
  have d2' : (w.setCell ⟨g, 1, none⟩ (.int .i64 ((p : Int) + 1))).cell? ⟨b, o + (p * 7 + 3) % len, none⟩ = some (.int .u8 (U ((p * 7 + 3) % len))) := (World.cell?_setCell_other _ _ _ _ (fun e => by injection e with e; exact hbg (by omega) e.symm)).trans d2
  generalize U (p % len) = u at *
  generalize U ((p * 7 + 3) % len) = v at *
  clear hby h0 d d2
  go_enter Tryz.func101, Tryz.ntmps101
  go_wp2_with fail
  go_quiet (fail)
  go_wp2_with fail
  exact HP.out _ nq (Int.tmod_nonneg _ (xor_pos (by omega) (by omega) (by omega) (by omega))) (Int.tmod_lt_of_pos _ (by omega))
theorem Bytes.only {U : Nat → Int} {a : Option Addr} {b o len g : Nat} {w w' : World} (h : Bytes U a b o len w) (k : Only g w w') (hg : 0 < len → b ≠ g) : Bytes U a b o len w' :=
 ⟨h.1, fun i hi => ⟨(k.cell (p := ⟨b, o + i, none⟩) (World.block_lt_of_cell? w _ (h.2 i hi).1) (hg (by omega))).trans (h.2 i hi).1, (h.2 i hi).2⟩⟩
theorem Bytes.below {U : Nat → Int} {a : Option Addr} {b o len : Nat} {w w' : World} (h : Bytes U a b o len w) (k : Below w.heap.size w w') : Bytes U a b o len w' :=
 ⟨h.1, fun i hi => ⟨(k.cell (p := ⟨b, o + i, none⟩) (World.block_lt_of_cell? w _ (h.2 i hi).1)).trans (h.2 i hi).1, (h.2 i hi).2⟩⟩
def DInts (N : Nat → Int) (b o n : Nat) (w : World) : Prop := ∀ i, i < n → w.cell? ⟨b, o + i, none⟩ = some (.int .i64 (N i))
theorem ints_new (l : List Int) (w : World) (T : TypeId) : DInts (fun i => l.getD i 0) w.heap.size 0 l.length (w.alloc (.cells (l.map (Value.int .i64)).toArray T)) := by
 intro i hi
 rw [Nat.zero_add, World.cell?_alloc_new]
 simp [hi]
def NumDPost (g : Nat) (a : Option Addr) (len cap p : Nat) (N : Nat → Int) (n : Nat) (w : World) (e : Ending) (w' : World) : Prop := ∃ i : Nat, i < n ∧ e = .returned (.int .i64 (N i)) ∧ Rd g a len cap (p + 1) w' ∧ Only g w w'
theorem num_any {U : Nat → Int} {N : Nat → Int} {g : Nat} {a : Option Addr} {b o len cap p : Nat} {b2 o2 n c2 : Nat} (w : World) (hlen : len ≤ 2000) (hp : p ≤ 1000000) (hn : 1 ≤ n) (hn2 : n ≤ 1000000) (hrd : Rd g a len cap p w) (hby : Bytes U a b o len w) (hbg : 0 < len → b ≠ g) (hi : DInts N b2 o2 n w) (hb2 : b2 ≠ g) :
  Calls Tryz.prog 102 #[.pointer (some ⟨g, 0, none⟩), .slice (some ⟨b2, o2, none⟩) n c2] w (NumDPost g a len cap p N n w) := by
 have HP : Hid (∀ (i : Nat) w', i < n → Rd g a len cap (p + 1) w' → Only g w w' → NumDPost g a len cap p N n w (.returned (.int .i64 (N i))) w') := fun i w' h1 h2 h3 => ⟨i, h1, rfl, h2, h3⟩
 have HK := tuck (pick_any (n := (n : Int)) w hlen hp (by omega) (by omega) hrd hby hbg)
 have HI := tuck hi
 generalize NumDPost g a len cap p N n w = post at *
 clear hrd hby hi
 go_enter Tryz.func102, Tryz.ntmps102
 go_wp2_with fail
 refine HK.out.mono ?_
 rintro e w1 ⟨v, rfl, h0, h1, hrd, ho⟩
 obtain ⟨i, rfl⟩ : ∃ i : Nat, v = i := ⟨v.toNat, by omega⟩
 have hin : i < n := by omega
 have hc := HI.out i hin
 have hc1 : w1.cell? ⟨b2, o2 + i, none⟩ = some (.int .i64 (N i)) := (ho.cell (p := ⟨b2, o2 + i, none⟩) (World.block_lt_of_cell? w _ hc) hb2).trans hc
 have HR := tuck hrd
 have HO := tuck ho
 clear hc hrd ho HI
 have HPI := tuck (HP.out i)
 generalize N i = x at *
 go_wp2
 exact HPI.out _ hin HR.out HO.out
def OpenPost (U : Nat → Int) (b o : Nat) (w : World) (e : Ending) (w' : World) : Prop := ∃ (a : Option Addr) (len cap : Nat), e = .returned (.pointer (some ⟨w.heap.size, 0, none⟩)) ∧ len ≤ 2000 ∧ (0 < len → b < w.heap.size) ∧ Rd w.heap.size a len cap 0 w' ∧ Bytes U a b o len w' ∧ Below w.heap.size w w' ∧ w.heap.size < w'.heap.size
theorem open_any {U : Nat → Int} {a : Option Addr} {b o len cap : Nat} (w : World) (hlen : len ≤ 140737488355328) (hcap : len ≤ cap) (hby : Bytes U a b o len w) : Calls Tryz.prog 56 #[.slice a len cap] w (OpenPost U b o w) := by
 have HP : Hid (∀ l, l ≤ len → l ≤ 2000 → OpenPost U b o w (.returned (.pointer (some ⟨w.heap.size, 0, none⟩))) (w.alloc (.cells #[.slice a l cap, .int .i64 0] 137))) := fun l h1 h2 => by
  refine ⟨a, l, cap, rfl, h2, fun h0 => World.block_lt_of_cell? w _ (hby.2 0 (by omega)).1, heap_new _ _, ⟨fun h => hby.1 (by omega), fun i hi => ⟨?_, (hby.2 i (by omega)).2⟩⟩, below1 _ _, by simp⟩
  have := (hby.2 i (by omega)).1
  exact ((below1 w _).cell (p := ⟨b, o + i, none⟩) (World.block_lt_of_cell? w _ this)).trans this
 generalize OpenPost U b o w = post at *
 clear hby
 by_cases h : 2000 < len
 ·have h' : (2000 : Int) < (len : Int) := by omega
  have hc : (2000 : Int) ≤ (cap : Int) := by omega
  go_enter Tryz.func56, Tryz.ntmps56
  go_wp2
  exact HP.out 2000 (by omega) (by omega)
 ·have h' : ¬ (2000 : Int) < (len : Int) := by omega
  go_enter Tryz.func56, Tryz.ntmps56
  go_wp2
  exact HP.out len (by omega) (by omega)
end Go.Proofs.YtihlbbbajaepoaaGreat
namespace Go.Proofs.YtihlbbbajaepoaaGreat
open Go.RowKit
theorem SlIn.keep2 {w w' : World} {B : Nat} : ∀ {l : List Tm} {v : Value}, SlIn w B l v → (∀ (p : Addr) (u : Value), B ≤ p.block → w.cell? p = some u → w'.cell? p = some u) → SlIn w' B l v := by
 intro l
 induction l using Tm.ind with
 | h l ih =>
  rintro v ⟨a, cap, b, o, rfl, h1, h2, h3⟩ hk
  refine ⟨a, cap, b, o, rfl, h1, h2, RowAt.of_get fun i hi => ?_⟩
  have hB : B ≤ b := (h2 (by intro e; subst e; simp at hi)).2
  obtain ⟨s, c0, c1, c2, hs⟩ := TmAt_iff.1 (h3.get i hi)
  exact TmAt_iff.2 ⟨s, hk _ _ hB c0, hk _ _ hB c1, hk _ _ hB c2, ih i hi hs hk⟩
noncomputable def mask (w : World) (X : Nat → Prop) : World := { w with heap := w.heap.mapIdx fun i o => @ite _ (X i) (Classical.propDecidable _) (.cells #[] 0 (0, 0)) o }
theorem mask_size (w : World) (X : Nat → Prop) : (mask w X).heap.size = w.heap.size := by simp [mask]
theorem mask_cell {w : World} {X : Nat → Prop} {p : Addr} {u : Value} : (mask w X).cell? p = some u ↔ ¬ X p.block ∧ w.cell? p = some u := by
 have he : (mask w X).heap[p.block]? = (w.heap[p.block]?).map fun o => @ite _ (X p.block) (Classical.propDecidable _) (.cells #[] 0 (0, 0)) o := by simp [mask]
 unfold World.cell?
 rw [he]
 cases hw : w.heap[p.block]? with
 | none => simp
 | some o =>
  by_cases hx : X p.block
  ·simp [hx]
  ·simp [hx]
structure View (u : World) (M : Nat → Prop) (w : World) : Prop where
 rd : ∀ (p : Addr) (x : Value), u.cell? p = some x → w.cell? p = some x
 off : ∀ (p : Addr) (x : Value), u.cell? p = some x → ¬ M p.block
theorem View.step {u w w' : World} {M M' : Nat → Prop} (h : View u M w) (hs : Step M w w' M') : View u M' w' :=
 ⟨fun p x hc => (hs.cell (World.block_lt_of_cell? w p (h.rd p x hc)) (h.off p x hc)).trans (h.rd p x hc), fun p x hc hm => h.off p x hc (hs.grow _ (World.block_lt_of_cell? w p (h.rd p x hc)) hm)⟩
theorem View.below {u w w' : World} {M : Nat → Prop} (h : View u M w) (hb : Below w.heap.size w w') : View u M w' :=
 ⟨fun p x hc => (hb.cell (World.block_lt_of_cell? w p (h.rd p x hc))).trans (h.rd p x hc), h.off⟩
theorem View.set {u w : World} {M : Nat → Prop} (h : View u M w) {q : Addr} (hq : M q.block) (y : Value) : View u M (w.setCell q y) :=
 ⟨fun p x hc => (World.cell?_setCell_other w q p y (fun e => h.off p x hc (by subst e; exact hq))).trans (h.rd p x hc), h.off⟩
theorem View.of_below {u w : World} {M : Nat → Prop} (h : Below u.heap.size u w) (hM : ∀ i, M i → u.heap.size ≤ i) : View u M w :=
 ⟨fun p x hc => (h.cell (World.block_lt_of_cell? u p hc)).trans hc, fun p x hc hm => by have := World.block_lt_of_cell? u p hc; have := hM _ hm; omega⟩
theorem View.mask (w : World) (M : Nat → Prop) : View (mask w M) M w := ⟨fun _ _ h => (mask_cell.1 h).2, fun _ _ h => (mask_cell.1 h).1⟩
theorem View.sl {u w : World} {M : Nat → Prop} {l : List Tm} {v : Value} (h : View u M w) (hs : SlIn u 0 l v) : SlIn w 0 l v := hs.keep2 fun p x _ hc => h.rd p x hc
def SlX (w : World) (X : Nat → Prop) (l : List Tm) (v : Value) : Prop := SlIn (Go.Proofs.YtihlbbbajaepoaaGreat.mask w X) 0 l v
theorem SlX.sl {w : World} {X : Nat → Prop} {l : List Tm} {v : Value} (h : SlX w X l v) : SlIn w 0 l v := (View.mask w X).sl h
theorem SlX.of_view {u w : World} {X : Nat → Prop} {l : List Tm} {v : Value} (h : SlIn u 0 l v) (hv : View u X w) : SlX w X l v := h.keep2 fun p x _ hc => mask_cell.2 ⟨hv.off p x hc, hv.rd p x hc⟩
theorem SlX.to {w w' : World} {X X' : Nat → Prop} {l : List Tm} {v : Value} (h : SlX w X l v) (hk : ∀ (p : Addr) (u : Value), ¬ X p.block → w.cell? p = some u → ¬ X' p.block ∧ w'.cell? p = some u) : SlX w' X' l v :=
 h.keep2 fun p u _ hc => mask_cell.2 (hk p u (mask_cell.1 hc).1 (mask_cell.1 hc).2)
theorem SlX.of_sl {w : World} {X : Nat → Prop} {B : Nat} {l : List Tm} {v : Value} (h : SlIn w B l v) (hX : ∀ i, X i → i < B) : SlX w X l v :=
 SlIn.mono (h.keep2 fun p u hp hc => mask_cell.2 ⟨fun hx => by have := hX _ hx; omega, hc⟩) (Nat.zero_le _)
theorem SlX.below {w w' : World} {X : Nat → Prop} {l : List Tm} {v : Value} (h : SlX w X l v) (hb : Below w.heap.size w w') : SlX w' X l v :=
 SlX.of_view h ((View.mask w X).below hb)
theorem SlX.set {w : World} {X : Nat → Prop} {l : List Tm} {v : Value} (h : SlX w X l v) {q : Addr} (hq : X q.block) (y : Value) : SlX (w.setCell q y) X l v :=
 SlX.of_view h ((View.mask w X).set hq y)
theorem SlX.form {w : World} {X : Nat → Prop} {l : List Tm} {v : Value} (h : SlX w X l v) : ∃ a cap, v = .slice a l.length cap := SlIn.form h
theorem SlX.nil (w : World) (X : Nat → Prop) (a : Option Addr) (cap : Nat) : SlX w X [] (.slice a 0 cap) := SlIn.nil _ _ _ _
theorem SlX.open {w : World} {X : Nat → Prop} {l : List Tm} {v : Value} (h : SlX w X l v) : ∃ (a : Option Addr) (cap b o : Nat), v = .slice a l.length cap ∧ l.length ≤ maxLen ∧ (l ≠ [] → a = some ⟨b, o, none⟩ ∧ ¬ X b ∧ b < w.heap.size) ∧
  ∀ i (hi : i < l.length), ∃ s, w.cell? ⟨b, o + i * 3, none⟩ = some (.int .i64 l[i].kind) ∧ w.cell? ⟨b, o + i * 3 + 1, none⟩ = some (.int .i64 l[i].num) ∧ w.cell? ⟨b, o + i * 3 + 2, none⟩ = some s ∧ SlX w X l[i].kids s := by
 obtain ⟨a, cap, b, o, rfl, h1, h2, h3⟩ := SlIn.open h
 refine ⟨a, cap, b, o, rfl, h1, fun hn => ⟨(h2 hn).1, ?_, by have := (h2 hn).2.2; rwa [mask_size] at this⟩, fun i hi => ?_⟩
 ·obtain ⟨s, c0, _⟩ := h3 0 (List.length_pos_iff.2 hn)
  exact (mask_cell.1 c0).1
 ·obtain ⟨s, c0, c1, c2, hs⟩ := h3 i hi
  exact ⟨s, (mask_cell.1 c0).2, (mask_cell.1 c1).2, (mask_cell.1 c2).2, hs⟩
theorem SlX.mk {w : World} {X : Nat → Prop} {l : List Tm} {b o cap : Nat} (hl : l.length ≤ maxLen) (hb : ¬ X b) (h : ∀ i (hi : i < l.length), ∃ s, w.cell? ⟨b, o + i * 3, none⟩ = some (.int .i64 l[i].kind) ∧ w.cell? ⟨b, o + i * 3 + 1, none⟩ = some (.int .i64 l[i].num) ∧ w.cell? ⟨b, o + i * 3 + 2, none⟩ = some s ∧ SlX w X l[i].kids s) :
  SlX w X l (.slice (some ⟨b, o, none⟩) l.length cap) :=
 ⟨_, cap, b, o, rfl, hl, fun _ => ⟨rfl, Nat.zero_le _⟩, RowAt.of_get fun i hi => by
  obtain ⟨s, c0, c1, c2, hs⟩ := h i hi
  exact TmAt_iff.2 ⟨s, mask_cell.2 ⟨hb, c0⟩, mask_cell.2 ⟨hb, c1⟩, mask_cell.2 ⟨hb, c2⟩, hs⟩⟩
end Go.Proofs.YtihlbbbajaepoaaGreat
