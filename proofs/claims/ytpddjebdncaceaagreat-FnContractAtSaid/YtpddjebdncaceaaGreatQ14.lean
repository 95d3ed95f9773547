/-
  Draw, Open, Pure.
-/
import Derived.Test.YtpddjebdncaceaaGreatQ01
import Derived.Test.YtpddjebdncaceaaGreatQ02
import Derived.Test.YtpddjebdncaceaaGreatQ11
import Derived.BigQuiet
import Derived.Carry
import Derived.Deep.QuietTactic
import Derived.Deep.Slices
import Derived.Deep.Strs
import Derived.OpenShut
import Derived.ProofKit
import Derived.Test.YtpddjebdncaceaaGreatProg
import Derived.Test.YtpddjebdncaceaaGreatRows
import Derived.WalkSpells
namespace Go.Proofs.YtpddjebdncaceaaGreat
open Go.RowKit
theorem xor_pos {x y : Int} (hx : 0 ≤ x) (hx2 : x < 9223372036854775808) (hy : 0 ≤ y) (hy2 : y < 9223372036854775808) : 0 ≤ bits .xor .i64 x y := by
 obtain ⟨a, rfl⟩ : ∃ a : Nat, x = a := ⟨x.toNat, by omega⟩
 obtain ⟨b, rfl⟩ : ∃ b : Nat, y = b := ⟨y.toNat, by omega⟩
 have h1 : (BitVec.ofInt 64 (a : Int)).toNat = a := by rw [BitVec.ofInt_natCast, BitVec.toNat_ofNat]; exact Nat.mod_eq_of_lt (by omega)
 have h2 : (BitVec.ofInt 64 (b : Int)).toNat = b := by rw [BitVec.ofInt_natCast, BitVec.toNat_ofNat]; exact Nat.mod_eq_of_lt (by omega)
 have h3 : a ^^^ b < 2 ^ 63 := Nat.xor_lt_two_pow (by omega) (by omega)
 show 0 ≤ IntKind.i64.wrap ((BitVec.ofInt 64 (a : Int) ^^^ BitVec.ofInt 64 (b : Int)).toNat : Int)
 rw [BitVec.toNat_xor, h1, h2, IntKind.wrap_i64]
 omega
def Bytes (U : Nat → Int) (a : Option Addr) (b o len : Nat) (w : World) : Prop := (0 < len → a = some ⟨b, o, none⟩) ∧ ∀ i, i < len → w.cell? ⟨b, o + i, none⟩ = some (.int .u8 (U i)) ∧ 0 ≤ U i ∧ U i ≤ 255
def Rd (g : Nat) (a : Option Addr) (len cap p : Nat) (w : World) : Prop := w.heap[g]? = some (.cells #[.slice a len cap, I6 p] 153 (0, 0))
theorem Rd.facts {g : Nat} {a : Option Addr} {len cap p : Nat} {w : World} (h : Rd g a len cap p w) : g < w.heap.size ∧ w.cell? ⟨g, 0, none⟩ = some (.slice a len cap) ∧ w.cell? ⟨g, 1, none⟩ = some (I6 p) ∧ ∀ i, w.frozen? ⟨g, i, none⟩ = false := by
 obtain ⟨h1, h2, h3⟩ := block_of_cells h
 exact ⟨h1, h2 0, h2 1, h3⟩
theorem Rd.below {g : Nat} {a : Option Addr} {len cap p : Nat} {w w' : World} (h : Rd g a len cap p w) (hb : Below w.heap.size w w') : Rd g a len cap p w' := (hb.block g h.facts.1).trans h
theorem Rd.set {g : Nat} {a : Option Addr} {len cap p q : Nat} {w : World} (h : Rd g a len cap p w) : Rd g a len cap q (w.setCell ⟨g, 1, none⟩ (I6 q)) := by
 have := block_set h 1 (I6 q)
 simpa [Rd] using this
theorem Bytes.cell {U : Nat → Int} {a : Option Addr} {b o len : Nat} {w : World} (h : Bytes U a b o len w) {i : Nat} (hi : i < len) : a = some ⟨b, o, none⟩ ∧ w.cell? ⟨b, o + i, none⟩ = some (.int .u8 (U i)) ∧ 0 ≤ U i ∧ U i ≤ 255 :=
 ⟨h.1 (by omega), h.2 i hi⟩
def PickPost (g : Nat) (a : Option Addr) (len cap p : Nat) (n : Int) (w : World) (e : Ending) (w' : World) : Prop := ∃ v : Int, e = .returned (I6 v) ∧ 0 ≤ v ∧ v < n ∧ Rd g a len cap (p + 1) w' ∧ Only g w w'
set_option maxRecDepth 100000 in
theorem pick_any {U : Nat → Int} {g : Nat} {a : Option Addr} {b o len cap p : Nat} {n : Int} (w : World) (hlen : len ≤ 2000) (hp : p ≤ 1000000) (hn : 1 ≤ n) (hn2 : n ≤ 1000000) (hrd : Rd g a len cap p w) (hby : Bytes U a b o len w) (hbg : 0 < len → b ≠ g) :
  Calls Tryz.prog 107 #[.pointer (some ⟨g, 0, none⟩), I6 n] w (PickPost g a len cap p n w) := by
 obtain ⟨hg, c0, c1, cf⟩ := hrd.facts
 have HP : Hid (∀ (v : Int) (k : Nat), 0 ≤ v → v < n → PickPost g a len cap p n w (.returned (I6 v)) ((w.setCell ⟨g, 1, none⟩ (I6 ((p : Int) + 1))).drewN k)) := fun v k h1 h2 =>
  ⟨v, rfl, h1, h2, by have := hrd.set (q := p + 1); rw [Int.natCast_succ] at this; exact this, ((Only.refl g w).setCell (Or.inl rfl) _).drewN k⟩
 have HP0 : Hid (∀ (v : Int), 0 ≤ v → v < n → PickPost g a len cap p n w (.returned (I6 v)) (w.setCell ⟨g, 1, none⟩ (I6 ((p : Int) + 1)))) := fun v h1 h2 =>
  ⟨v, rfl, h1, h2, by have := hrd.set (q := p + 1); rw [Int.natCast_succ] at this; exact this, (Only.refl g w).setCell (Or.inl rfl) _⟩
 generalize PickPost g a len cap p n w = post at *
 clear hrd
 have hn3 : ¬ n < 1 := by omega
 by_cases h0 : len = 0
 ·subst h0
  go_enter Tryz.func107, Tryz.ntmps107
  go_wp2
  exact HP0.out 0 (by omega) (by omega)
 have h0' : ((len : Int) == 0) = false := by simpa using h0
 by_cases hlt : p < len
 ·have hlti : ((p : Int) < (len : Int)) := by omega
  obtain ⟨rfl, d, u0, u1⟩ := hby.cell hlt
  have d' : (w.setCell ⟨g, 1, none⟩ (I6 ((p : Int) + 1))).cell? ⟨b, o + p, none⟩ = some (.int .u8 (U p)) := (World.cell?_setCell_other _ _ _ _ (fun e => by injection e with e; exact hbg (by omega) e.symm)).trans d
  generalize U p = u at *
  clear hby h0 d
  go_enter Tryz.func107, Tryz.ntmps107
  go_wp2
  exact HP0.out _ (Int.emod_nonneg _ (by omega)) (Int.emod_lt_of_pos _ (by omega))
 ·have hge : ¬ ((p : Int) < (len : Int)) := by omega
  have hp0 : (0 : Int) ≤ (p : Int) % (len : Int) := Int.emod_nonneg _ (by omega)
  have hp1 : (p : Int) % (len : Int) < (len : Int) := Int.emod_lt_of_pos _ (by omega)
  have hq0 : (0 : Int) ≤ ((p : Int) * 7 + 3) % (len : Int) := Int.emod_nonneg _ (by omega)
  have hq1 : ((p : Int) * 7 + 3) % (len : Int) < (len : Int) := Int.emod_lt_of_pos _ (by omega)
  have hd0 : (0 : Int) ≤ (p : Int) / (len : Int) := Int.ediv_nonneg (by omega) (by omega)
  have hd1 : (p : Int) / (len : Int) ≤ (p : Int) := Int.ediv_le_self _ (by omega)
  obtain ⟨rfl, d, u0, u1⟩ := hby.cell (i := p % len) (Nat.mod_lt _ (by omega))
  obtain ⟨_, d2, v0, v1⟩ := hby.cell (i := (p * 7 + 3) % len) (Nat.mod_lt _ (by omega))
  have d' : (w.setCell ⟨g, 1, none⟩ (I6 ((p : Int) + 1))).cell? ⟨b, o + p % len, none⟩ = some (.int .u8 (U (p % len))) := (World.cell?_setCell_other _ _ _ _ (fun e => by injection e with e; exact hbg (by omega) e.symm)).trans d
  have d2' : (w.setCell ⟨g, 1, none⟩ (I6 ((p : Int) + 1))).cell? ⟨b, o + (p * 7 + 3) % len, none⟩ = some (.int .u8 (U ((p * 7 + 3) % len))) := (World.cell?_setCell_other _ _ _ _ (fun e => by injection e with e; exact hbg (by omega) e.symm)).trans d2
  generalize U (p % len) = u at *
  generalize U ((p * 7 + 3) % len) = v at *
  clear hby h0 d d2
  go_enter Tryz.func107, Tryz.ntmps107
  go_wp2_with fail
  go_quiet (fail)
  go_wp2_with fail
  exact HP.out _ nq (Int.tmod_nonneg _ (xor_pos (by omega) (by omega) (by omega) (by omega))) (Int.tmod_lt_of_pos _ (by omega))
theorem Bytes.only {U : Nat → Int} {a : Option Addr} {b o len g : Nat} {w w' : World} (h : Bytes U a b o len w) (k : Only g w w') (hg : 0 < len → b ≠ g) : Bytes U a b o len w' :=
 ⟨h.1, fun i hi => ⟨(k.cell (p := ⟨b, o + i, none⟩) (World.block_lt_of_cell? w _ (h.2 i hi).1) (hg (by omega))).trans (h.2 i hi).1, (h.2 i hi).2⟩⟩
theorem Bytes.below {U : Nat → Int} {a : Option Addr} {b o len : Nat} {w w' : World} (h : Bytes U a b o len w) (k : Below w.heap.size w w') : Bytes U a b o len w' :=
 ⟨h.1, fun i hi => ⟨(k.cell (p := ⟨b, o + i, none⟩) (World.block_lt_of_cell? w _ (h.2 i hi).1)).trans (h.2 i hi).1, (h.2 i hi).2⟩⟩
def DInts (N : Nat → Int) (b o n : Nat) (w : World) : Prop := ∀ i, i < n → w.cell? ⟨b, o + i, none⟩ = some (I6 (N i))
theorem ints_new (l : List Int) (w : World) (T : TypeId) : DInts (fun i => l.getD i 0) w.heap.size 0 l.length (w.alloc (.cells (l.map (Value.int .i64)).toArray T)) := by
 intro i hi
 rw [Nat.zero_add, World.cell?_alloc_new]
 simp [hi]
def NumDPost (g : Nat) (a : Option Addr) (len cap p : Nat) (N : Nat → Int) (n : Nat) (w : World) (e : Ending) (w' : World) : Prop := ∃ i : Nat, i < n ∧ e = .returned (I6 (N i)) ∧ Rd g a len cap (p + 1) w' ∧ Only g w w'
theorem num_any {U : Nat → Int} {N : Nat → Int} {g : Nat} {a : Option Addr} {b o len cap p : Nat} {b2 o2 n c2 : Nat} (w : World) (hlen : len ≤ 2000) (hp : p ≤ 1000000) (hn : 1 ≤ n) (hn2 : n ≤ 1000000) (hrd : Rd g a len cap p w) (hby : Bytes U a b o len w) (hbg : 0 < len → b ≠ g) (hi : DInts N b2 o2 n w) (hb2 : b2 ≠ g) :
  Calls Tryz.prog 108 #[.pointer (some ⟨g, 0, none⟩), .slice (some ⟨b2, o2, none⟩) n c2] w (NumDPost g a len cap p N n w) := by
 have HP : Hid (∀ (i : Nat) w', i < n → Rd g a len cap (p + 1) w' → Only g w w' → NumDPost g a len cap p N n w (.returned (I6 (N i))) w') := fun i w' h1 h2 h3 => ⟨i, h1, rfl, h2, h3⟩
 have HK := tuck (pick_any (n := (n : Int)) w hlen hp (by omega) (by omega) hrd hby hbg)
 have HI := tuck hi
 generalize NumDPost g a len cap p N n w = post at *
 clear hrd hby hi
 go_enter Tryz.func108, Tryz.ntmps108
 go_wp2_with fail
 refine HK.out.mono ?_
 rintro e w1 ⟨v, rfl, h0, h1, hrd, ho⟩
 obtain ⟨i, rfl⟩ : ∃ i : Nat, v = i := ⟨v.toNat, by omega⟩
 have hin : i < n := by omega
 have hc := HI.out i hin
 have hc1 : w1.cell? ⟨b2, o2 + i, none⟩ = some (I6 (N i)) := (ho.cell (p := ⟨b2, o2 + i, none⟩) (World.block_lt_of_cell? w _ hc) hb2).trans hc
 have HR := tuck hrd
 have HO := tuck ho
 clear hc hrd ho HI
 have HPI := tuck (HP.out i)
 generalize N i = x at *
 go_wp2
 exact HPI.out _ hin HR.out HO.out
def OpenPost (U : Nat → Int) (b o : Nat) (w : World) (e : Ending) (w' : World) : Prop := ∃ (a : Option Addr) (len cap : Nat), e = .returned (.pointer (some ⟨w.heap.size, 0, none⟩)) ∧ len ≤ 2000 ∧ (0 < len → b < w.heap.size) ∧ Rd w.heap.size a len cap 0 w' ∧ Bytes U a b o len w' ∧ Below w.heap.size w w' ∧ w.heap.size < w'.heap.size
theorem open_any {U : Nat → Int} {a : Option Addr} {b o len cap : Nat} (w : World) (hlen : len ≤ 140737488355328) (hcap : len ≤ cap) (hby : Bytes U a b o len w) : Calls Tryz.prog 75 #[.slice a len cap] w (OpenPost U b o w) := by
 have HP : Hid (∀ l, l ≤ len → l ≤ 2000 → OpenPost U b o w (.returned (.pointer (some ⟨w.heap.size, 0, none⟩))) (w.alloc (.cells #[.slice a l cap, I6 0] 153))) := fun l h1 h2 => by
  refine ⟨a, l, cap, rfl, h2, fun h0 => World.block_lt_of_cell? w _ (hby.2 0 (by omega)).1, heap_new _ _, ⟨fun h => hby.1 (by omega), fun i hi => ⟨?_, (hby.2 i (by omega)).2⟩⟩, below1 _ _, by simp⟩
  have := (hby.2 i (by omega)).1
  exact ((below1 w _).cell (p := ⟨b, o + i, none⟩) (World.block_lt_of_cell? w _ this)).trans this
 generalize OpenPost U b o w = post at *
 clear hby
 by_cases h : 2000 < len
 ·have h' : (2000 : Int) < (len : Int) := by omega
  have hc : (2000 : Int) ≤ (cap : Int) := by omega
  go_enter Tryz.func75, Tryz.ntmps75
  go_wp2
  exact HP.out 2000 (by omega) (by omega)
 ·have h' : ¬ (2000 : Int) < (len : Int) := by omega
  go_enter Tryz.func75, Tryz.ntmps75
  go_wp2
  exact HP.out len (by omega) (by omega)
end Go.Proofs.YtpddjebdncaceaaGreat
namespace Go.Proofs.YtpddjebdncaceaaGreat
open Go.ChangeShapes Go.WideShapes Go.ChangeAt Go.RowKit Go.Deep
theorem own : ownKnob Tryz.prog.godebug = none := by kernel_rfl
section
variable {H : Type} {enc : TypeId × Value → H} {W : World}
set_option maxRecDepth 100000 in
theorem stays_all (hl : laidOutB Tryz.prog = true) {W' : World} {sp : Nat → Bool} (hb : Below W.heap.size W W') : ∀ (ts : List TypeId) (vs : List Value) (ds : List (DataW H)) (ps : List MemPlace), (∀ t ∈ ts, Tryz.prog.readableRec t = true ∧ t < Tryz.prog.types.size) →
  DataW.TrodAll enc Tryz.prog W 0 (fun _ => true) true ts vs ds ps → (∀ p ∈ ps, p.block < W.heap.size) → (∀ p ∈ ps, sp p.block = true) → DataW.TrodAll enc Tryz.prog W' 0 sp true ts vs ds ps
 | [], [], [], _, _, h, _, _ => h
 | t :: ts, v :: vs, d :: ds, ps, hr, ⟨p, q, h0, h1, e⟩, hlt, hsp => by
  subst e
  refine ⟨p, q, WideElems.Trod_stays hl (hr t (by simp)).1 (hr t (by simp)).2 h0 (fun x hx => hb.same (hlt x (by simp [hx]))) (fun x hx => hsp x (by simp [hx])), ?_, rfl⟩
  exact stays_all hl hb ts vs ds q (fun t ht => hr t (by simp [ht])) h1 (fun x hx => hlt x (by simp [hx])) (fun x hx => hsp x (by simp [hx]))
set_option maxRecDepth 100000 in
theorem law_post {f : Func} {s : ChangeSpec} {W' : World} {args : Array Value} {ds gs : List (DataW H)} {before : List MemPlace} (hf : f.resultTypes = #[4]) (hv : s.vars = [])
  (hs : ∀ gs, gs = [] → s.fn H (ds ++ gs) = { results := [.lit (.bool true)], args := ds }) (hr : ∀ t ∈ f.params.toList, Tryz.prog.readableRec t = true ∧ t < Tryz.prog.types.size)
  (hl : laidOutB Tryz.prog = true) (hW : DataW.Whole enc Tryz.prog f.params.toList s.vars false W args.toList ds gs before) (hb : Below W.heap.size W W') : s.post enc Tryz.prog f false true false false W args (.bool true) W' := by
 have hW0 := hW
 obtain ⟨p, q, hA, hV, rfl, _, _⟩ := hW
 have hlt := fun x hx => hW0.lt x hx
 have hg : gs = [] ∧ q = [] := by
  rw [hv] at hV
  cases gs with
  | nil => exact ⟨rfl, hV⟩
  | cons g gs => exact absurd hV (by simp [DataW.TrodVars])
 obtain ⟨rfl, rfl⟩ := hg
 refine ⟨ds, [], p ++ [], [], p, [], hW0, ?_, ?_, ?_, hb.frame _, fun h => by cases h⟩
 ·rw [hs [] rfl, hf]
  exact ⟨[], [], shut_bool Tryz.underlying4 _, rfl, rfl⟩
 ·rw [hs [] rfl]
  exact stays_all hl hb _ _ _ _ hr hA (fun x hx => hlt x (by simp [hx])) (fun x hx => by simpa using hlt x (by simp [hx]))
 ·rw [hv, hs [] rfl]
  rfl
end
end Go.Proofs.YtpddjebdncaceaaGreat
namespace Go.Proofs.YtpddjebdncaceaaGreat
open Go.ChangeShapes Go.WideShapes Go.ChangeAt Go.RowKit Go.Deep
instance : Inhabited Tm := ⟨.mk 0 0 []⟩
section
variable {H : Type} {enc : TypeId × Value → H} {W : World}
end
end Go.Proofs.YtpddjebdncaceaaGreat
namespace Go.Proofs.YtpddjebdncaceaaGreat
theorem under_succ (k : Int) (i : Nat) : 0 ≤ under k i := (under_01 k i).1
-- limits and occurrences
-- shifts
mutual
theorem Tm.shift_size (e : Int) : ∀ (t : Tm) (c : Int), (t.shift e c).size = t.size
 | .mk k n l, c => by rw [Tm.shift, Tm.size, Tm.size, shiftL_sizes e l k 0 c]
theorem shiftL_sizes (e : Int) : ∀ (l : List Tm) (k : Int) (i : Nat) (c : Int), sizes (shiftL e k l i c) = sizes l
 | [], _, _, _ => by rw [shiftL]
 | t :: l, k, i, c => by rw [shiftL, sizes, sizes, Tm.shift_size e t, shiftL_sizes e l]
end
-- substitutions
mutual
theorem Tm.subst_size (u : Tm) : ∀ (t : Tm) (x d : Int), t.allOk → ((t.subst u x d).size : Int) = t.size + t.times x * (u.size - 1)
 | .mk k n l, x, d, h => by
  rw [Tm.allOk] at h
  rw [Tm.subst, Tm.times, Tm.size]
  by_cases e : k = 1 ∧ n = x
  ·obtain ⟨rfl, rfl⟩ := e
   obtain rfl := var_kids h.1
   rw [if_pos ⟨rfl, rfl⟩, if_pos ⟨rfl, rfl⟩, timesL, sizes, Tm.shift_size]
   simp only [Int.add_zero, Int.one_mul]
   omega
  ·rw [if_neg e, if_neg e, Tm.size, Int.zero_add]
   have := substL_size u l k 0 x d h.2
   omega
theorem substL_size (u : Tm) : ∀ (l : List Tm) (k : Int) (i : Nat) (x d : Int), allsOk l → (sizes (substL u k l i x d) : Int) = sizes l + timesL k l i x * (u.size - 1)
 | [], _, _, _, _, _ => by rw [substL, sizes, timesL]; omega
 | t :: l, k, i, x, d, h => by
  rw [allsOk] at h
  have h1 := Tm.subst_size u t (x + under k i) (d + under k i) h.1
  have h2 := substL_size u l k (i + 1) x d h.2
  rw [substL, sizes, sizes, timesL, Int.add_mul]
  omega
end
mutual
theorem Tm.subst_closed (u : Tm) : ∀ (t : Tm) (b d : Int), t.most b = 0 → t.subst u b d = t
 | .mk k n l, b, d, h => by
  have hs := fun h => substL_closed u l k 0 b d h
  have hb := mostL_ge l k 0 b
  rw [Tm.most] at h
  have e1 : ¬ (k = 1 ∧ b ≤ n) := fun e => by rw [if_pos e] at h; omega
  rw [if_neg e1] at h
  rw [Tm.subst, if_neg (by omega), if_neg (by omega), hs (by omega)]
theorem substL_closed (u : Tm) : ∀ (l : List Tm) (k : Int) (i : Nat) (b d : Int), mostL k l i b = 0 → substL u k l i b d = l
 | [], _, _, _, _, _ => by rw [substL]
 | t :: l, k, i, b, d, h => by
  have h1 := Tm.most_ge t (b + under k i)
  have h2 := mostL_ge l k (i + 1) b
  rw [mostL] at h
  rw [substL, Tm.subst_closed u t _ _ (by omega), substL_closed u l k _ b d (by omega)]
theorem Tm.most_ge : ∀ (t : Tm) (b : Int), 0 ≤ t.most b
 | .mk k n l, b => by have := mostL_ge l k 0 b; rw [Tm.most]; omega
theorem mostL_ge : ∀ (l : List Tm) (k : Int) (i : Nat) (b : Int), 0 ≤ mostL k l i b
 | [], _, _, _ => by rw [mostL]; omega
 | t :: l, k, i, b => by have := Tm.most_ge t (b + under k i); rw [mostL]; omega
end
mutual
theorem Tm.shift_in (e d : Int) (hd : 0 ≤ d) : ∀ (t : Tm) (c0 c : Int), c0 ≤ c → c ≤ c0 + d → (t.shift d c0).shift e c = t.shift (d + e) c0
 | .mk k n l, c0, c, h0, h1 => by
  rw [Tm.shift, Tm.shift, Tm.shift, shiftL_in e d hd l k 0 c0 c h0 h1]
  congr 1
  by_cases hk : k = 1 ∧ c0 ≤ n
  ·rw [if_pos hk, if_pos ⟨hk.1, by omega⟩, if_pos hk]; omega
  ·rw [if_neg hk, if_neg hk, if_neg (by omega)]
theorem shiftL_in (e d : Int) (hd : 0 ≤ d) : ∀ (l : List Tm) (k : Int) (i : Nat) (c0 c : Int), c0 ≤ c → c ≤ c0 + d → shiftL e k (shiftL d k l i c0) i c = shiftL (d + e) k l i c0
 | [], _, _, _, _, _, _ => by rw [shiftL, shiftL, shiftL]
 | t :: l, k, i, c0, c, h0, h1 => by
  rw [shiftL, shiftL, shiftL, Tm.shift_in e d hd t _ _ (by omega) (by omega), shiftL_in e d hd l k _ c0 c h0 h1]
end
mutual
theorem Tm.shift_subst (v : Tm) (e : Int) (he : 0 ≤ e) : ∀ (t : Tm) (c x d : Int), 0 ≤ c → c ≤ d → c ≤ x → (t.shift e c).subst v (x + e) (d + e) = (t.subst v x d).shift e c
 | .mk k n l, c, x, d, h0, h1, h2 => by
  rw [Tm.shift, Tm.subst, Tm.subst]
  by_cases hx : k = 1 ∧ n = x
  ·rw [if_pos ⟨hx.1, by omega⟩, if_pos ⟨hx.1, by omega⟩, Tm.shift_in e d (by omega) v 0 c h0 (by omega)]
  ·have hn : ¬ (k = 1 ∧ (if k = 1 ∧ c ≤ n then n + e else n) = x + e) := by
    rintro ⟨rfl, h⟩
    by_cases hc : c ≤ n
    ·rw [if_pos ⟨rfl, hc⟩] at h
     exact hx ⟨rfl, by omega⟩
    ·rw [if_neg (fun e => hc e.2)] at h
     omega
   rw [if_neg hn, if_neg hx, Tm.shift, shiftL_subst v e he l k 0 c x d h0 h1 h2]
   clear hn
   congr 1
   (repeat' split) <;> omega
theorem shiftL_subst (v : Tm) (e : Int) (he : 0 ≤ e) : ∀ (l : List Tm) (k : Int) (i : Nat) (c x d : Int), 0 ≤ c → c ≤ d → c ≤ x → substL v k (shiftL e k l i c) i (x + e) (d + e) = shiftL e k (substL v k l i x d) i c
 | [], _, _, _, _, _, _, _, _ => by rw [shiftL, substL, substL, shiftL]
 | t :: l, k, i, c, x, d, h0, h1, h2 => by
  have := under_succ k i
  rw [shiftL, substL, substL, shiftL, show x + e + under k i = x + under k i + e by omega, show d + e + under k i = d + under k i + e by omega,
   Tm.shift_subst v e he t _ _ _ (by omega) (by omega) (by omega), shiftL_subst v e he l k _ c x d h0 h1 h2]
end
mutual
theorem Tm.subst_room (u : Tm) (b : Int) (hb : 0 ≤ b) : ∀ (t : Tm) (c d x : Int), c ≤ x → x ≤ c + b → (t.shift (b + 1) c).subst u x d = t.shift b c
 | .mk k n l, c, d, x, h0, h1 => by
  rw [Tm.shift, Tm.subst, Tm.shift, substL_room u b hb l k 0 c d x h0 h1]
  by_cases hk : k = 1 ∧ c ≤ n
  ·rw [if_pos hk, if_neg (by omega), if_pos ⟨hk.1, by omega⟩, if_pos hk]
   congr 1; omega
  ·rw [if_neg hk, if_neg (by omega), if_neg (by omega), if_neg hk]
theorem substL_room (u : Tm) (b : Int) (hb : 0 ≤ b) : ∀ (l : List Tm) (k : Int) (i : Nat) (c d x : Int), c ≤ x → x ≤ c + b → substL u k (shiftL (b + 1) k l i c) i x d = shiftL b k l i c
 | [], _, _, _, _, _, _, _ => by rw [shiftL, substL, shiftL]
 | t :: l, k, i, c, d, x, h0, h1 => by
  rw [shiftL, substL, shiftL, Tm.subst_room u b hb t _ _ _ (by omega) (by omega), substL_room u b hb l k _ c d x h0 h1]
end
-- renamings
end Go.Proofs.YtpddjebdncaceaaGreat
