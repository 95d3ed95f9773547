/-
  Draw, Open, RowT.
-/
import Derived.Test.YtlbikgnanabjgaaGreatQ01
import Derived.Test.YtlbikgnanabjgaaGreatQ05
import Derived.Test.YtlbikgnanabjgaaGreatQ15
import Derived.Test.YtlbikgnanabjgaaGreatQ18
import Derived.BigQuiet
import Derived.Carry
import Derived.Deep.QuietTactic
import Derived.Deep.Slices
import Derived.Deep.Strs
import Derived.OpenShut
import Derived.ProofKit
import Derived.Test.YtlbikgnanabjgaaGreatProg
import Derived.Test.YtlbikgnanabjgaaGreatRows
import Derived.WalkSpells
namespace Go.Proofs.YtlbikgnanabjgaaGreat
open Go.ChangeShapes Go.WideShapes Go.ChangeAt Go.RowKit Go.Deep
theorem own : ownKnob Tryz.prog.godebug = none := by kernel_rfl
section
variable {H : Type} {enc : TypeId × Value → H} {W : World}
set_option maxRecDepth 100000 in
theorem stays_all (hl : laidOutB Tryz.prog = true) {W' : World} {sp : Nat → Bool} (hb : Below W.heap.size W W') : ∀ (ts : List TypeId) (vs : List Value) (ds : List (DataW H)) (ps : List MemPlace), (∀ t ∈ ts, Tryz.prog.readableRec t = true ∧ t < Tryz.prog.types.size) →
  DataW.TrodAll enc Tryz.prog W 0 (fun _ => true) true ts vs ds ps → (∀ p ∈ ps, p.block < W.heap.size) → (∀ p ∈ ps, sp p.block = true) → DataW.TrodAll enc Tryz.prog W' 0 sp true ts vs ds ps
 | [], [], [], _, _, h, _, _ => h
 | t :: ts, v :: vs, d :: ds, ps, hr, ⟨p, q, h0, h1, e⟩, hlt, hsp => by
  subst e
  refine ⟨p, q, WideElems.Trod_stays hl (hr t (by simp)).1 (hr t (by simp)).2 h0 (fun x hx => hb.same (hlt x (by simp [hx]))) (fun x hx => hsp x (by simp [hx])), ?_, rfl⟩
  exact stays_all hl hb ts vs ds q (fun t ht => hr t (by simp [ht])) h1 (fun x hx => hlt x (by simp [hx])) (fun x hx => hsp x (by simp [hx]))
set_option maxRecDepth 100000 in
theorem law_post {f : Func} {s : ChangeSpec} {W' : World} {args : Array Value} {ds gs : List (DataW H)} {before : List MemPlace} (hf : f.resultTypes = #[4]) (hv : s.vars = [])
  (hs : ∀ gs, gs = [] → s.fn H (ds ++ gs) = { results := [.lit (.bool true)], args := ds }) (hr : ∀ t ∈ f.params.toList, Tryz.prog.readableRec t = true ∧ t < Tryz.prog.types.size)
  (hl : laidOutB Tryz.prog = true) (hW : DataW.Whole enc Tryz.prog f.params.toList s.vars false W args.toList ds gs before) (hb : Below W.heap.size W W') : s.post enc Tryz.prog f false true false false W args (.bool true) W' := by
 have hW0 := hW
 obtain ⟨p, q, hA, hV, rfl, _, _⟩ := hW
 have hlt := fun x hx => hW0.lt x hx
 have hg : gs = [] ∧ q = [] := by
  rw [hv] at hV
  cases gs with
  | nil => exact ⟨rfl, hV⟩
  | cons g gs => exact absurd hV (by simp [DataW.TrodVars])
 obtain ⟨rfl, rfl⟩ := hg
 refine ⟨ds, [], p ++ [], [], p, [], hW0, ?_, ?_, ?_, hb.frame _, fun h => by cases h⟩
 ·rw [hs [] rfl, hf]
  exact ⟨[], [], shut_bool Tryz.underlying4 _, rfl, rfl⟩
 ·rw [hs [] rfl]
  exact stays_all hl hb _ _ _ _ hr hA (fun x hx => hlt x (by simp [hx])) (fun x hx => by simpa using hlt x (by simp [hx]))
 ·rw [hv, hs [] rfl]
  rfl
end
end Go.Proofs.YtlbikgnanabjgaaGreat
namespace Go.Proofs.YtlbikgnanabjgaaGreat
open Go.ChangeShapes Go.WideShapes Go.ChangeAt Go.RowKit Go.Deep
instance : Inhabited Tm := ⟨.mk 0 0 []⟩
section
variable {H : Type} {enc : TypeId × Value → H} {W : World}
end
end Go.Proofs.YtlbikgnanabjgaaGreat
namespace Go.Proofs.YtlbikgnanabjgaaGreat
open Go.RowKit
theorem xor_pos {x y : Int} (hx : 0 ≤ x) (hx2 : x < 9223372036854775808) (hy : 0 ≤ y) (hy2 : y < 9223372036854775808) : 0 ≤ bits .xor .i64 x y := by
 obtain ⟨a, rfl⟩ : ∃ a : Nat, x = a := ⟨x.toNat, by omega⟩
 obtain ⟨b, rfl⟩ : ∃ b : Nat, y = b := ⟨y.toNat, by omega⟩
 have h1 : (BitVec.ofInt 64 (a : Int)).toNat = a := by rw [BitVec.ofInt_natCast, BitVec.toNat_ofNat]; exact Nat.mod_eq_of_lt (by omega)
 have h2 : (BitVec.ofInt 64 (b : Int)).toNat = b := by rw [BitVec.ofInt_natCast, BitVec.toNat_ofNat]; exact Nat.mod_eq_of_lt (by omega)
 have h3 : a ^^^ b < 2 ^ 63 := Nat.xor_lt_two_pow (by omega) (by omega)
 show 0 ≤ IntKind.i64.wrap ((BitVec.ofInt 64 (a : Int) ^^^ BitVec.ofInt 64 (b : Int)).toNat : Int)
 rw [BitVec.toNat_xor, h1, h2, IntKind.wrap_i64]
 omega
def Bytes (U : Nat → Int) (a : Option Addr) (b o len : Nat) (w : World) : Prop := (0 < len → a = some ⟨b, o, none⟩) ∧ ∀ i, i < len → w.cell? ⟨b, o + i, none⟩ = some (.int .u8 (U i)) ∧ 0 ≤ U i ∧ U i ≤ 255
def Rd (g : Nat) (a : Option Addr) (len cap p : Nat) (w : World) : Prop := w.heap[g]? = some (.cells #[.slice a len cap, .int .i64 p] 74 (0, 0))
theorem Rd.facts {g : Nat} {a : Option Addr} {len cap p : Nat} {w : World} (h : Rd g a len cap p w) : g < w.heap.size ∧ w.cell? ⟨g, 0, none⟩ = some (.slice a len cap) ∧ w.cell? ⟨g, 1, none⟩ = some (.int .i64 p) ∧ ∀ i, w.frozen? ⟨g, i, none⟩ = false := by
 obtain ⟨h1, h2, h3⟩ := block_of_cells h
 exact ⟨h1, h2 0, h2 1, h3⟩
theorem Rd.below {g : Nat} {a : Option Addr} {len cap p : Nat} {w w' : World} (h : Rd g a len cap p w) (hb : Below w.heap.size w w') : Rd g a len cap p w' := (hb.block g h.facts.1).trans h
theorem Rd.set {g : Nat} {a : Option Addr} {len cap p q : Nat} {w : World} (h : Rd g a len cap p w) : Rd g a len cap q (w.setCell ⟨g, 1, none⟩ (.int .i64 q)) := by
 have := block_set h 1 (.int .i64 q)
 simpa [Rd] using this
theorem Bytes.cell {U : Nat → Int} {a : Option Addr} {b o len : Nat} {w : World} (h : Bytes U a b o len w) {i : Nat} (hi : i < len) : a = some ⟨b, o, none⟩ ∧ w.cell? ⟨b, o + i, none⟩ = some (.int .u8 (U i)) ∧ 0 ≤ U i ∧ U i ≤ 255 :=
 ⟨h.1 (by omega), h.2 i hi⟩
def PickPost (g : Nat) (a : Option Addr) (len cap p : Nat) (n : Int) (w : World) (e : Ending) (w' : World) : Prop := ∃ v : Int, e = .returned (.int .i64 v) ∧ 0 ≤ v ∧ v < n ∧ Rd g a len cap (p + 1) w' ∧ Only g w w'
set_option maxRecDepth 100000 in
theorem pick_any {U : Nat → Int} {g : Nat} {a : Option Addr} {b o len cap p : Nat} {n : Int} (w : World) (hlen : len ≤ 2000) (hp : p ≤ 1000000) (hn : 1 ≤ n) (hn2 : n ≤ 1000000) (hrd : Rd g a len cap p w) (hby : Bytes U a b o len w) (hbg : 0 < len → b ≠ g) :
  Calls Tryz.prog 40 #[.pointer (some ⟨g, 0, none⟩), .int .i64 n] w (PickPost g a len cap p n w) := by
 obtain ⟨hg, c0, c1, cf⟩ := hrd.facts
 have HP : Hid (∀ (v : Int) (k : Nat), 0 ≤ v → v < n → PickPost g a len cap p n w (.returned (.int .i64 v)) ((w.setCell ⟨g, 1, none⟩ (.int .i64 ((p : Int) + 1))).drewN k)) := fun v k h1 h2 =>
  ⟨v, rfl, h1, h2, by have := hrd.set (q := p + 1); rw [Int.natCast_succ] at this; exact this, ((Only.refl g w).setCell (Or.inl rfl) _).drewN k⟩
 have HP0 : Hid (∀ (v : Int), 0 ≤ v → v < n → PickPost g a len cap p n w (.returned (.int .i64 v)) (w.setCell ⟨g, 1, none⟩ (.int .i64 ((p : Int) + 1)))) := fun v h1 h2 =>
  ⟨v, rfl, h1, h2, by have := hrd.set (q := p + 1); rw [Int.natCast_succ] at this; exact this, (Only.refl g w).setCell (Or.inl rfl) _⟩
 generalize PickPost g a len cap p n w = post at *
 clear hrd
 have hn3 : ¬ n < 1 := by omega
 by_cases h0 : len = 0
 ·subst h0
  go_enter Tryz.func40, Tryz.ntmps40
  go_wp2
  exact HP0.out 0 (by omega) (by omega)
 have h0' : ((len : Int) == 0) = false := by simpa using h0
 by_cases hlt : p < len
 ·have hlti : ((p : Int) < (len : Int)) := by omega
  obtain ⟨rfl, d, u0, u1⟩ := hby.cell hlt
  have d' : (w.setCell ⟨g, 1, none⟩ (.int .i64 ((p : Int) + 1))).cell? ⟨b, o + p, none⟩ = some (.int .u8 (U p)) := (World.cell?_setCell_other _ _ _ _ (fun e => by injection e with e; exact hbg (by omega) e.symm)).trans d
  generalize U p = u at *
  clear hby h0 d
  go_enter Tryz.func40, Tryz.ntmps40
  go_wp2
  exact HP0.out _ (Int.emod_nonneg _ (by omega)) (Int.emod_lt_of_pos _ (by omega))
 ·have hge : ¬ ((p : Int) < (len : Int)) := by omega
  have hp0 : (0 : Int) ≤ (p : Int) % (len : Int) := Int.emod_nonneg _ (by omega)
  have hp1 : (p : Int) % (len : Int) < (len : Int) := Int.emod_lt_of_pos _ (by omega)
  have hq0 : (0 : Int) ≤ ((p : Int) * 7 + 3) % (len : Int) := Int.emod_nonneg _ (by omega)
  have hq1 : ((p : Int) * 7 + 3) % (len : Int) < (len : Int) := Int.emod_lt_of_pos _ (by omega)
  have hd0 : (0 : Int) ≤ (p : Int) / (len : Int) := Int.ediv_nonneg (by omega) (by omega)
  have hd1 : (p : Int) / (len : Int) ≤ (p : Int) := Int.ediv_le_self _ (by omega)
  obtain ⟨rfl, d, u0, u1⟩ := hby.cell (i := p % len) (Nat.mod_lt _ (by omega))
  obtain ⟨_, d2, v0, v1⟩ := hby.cell (i := (p * 7 + 3) % len) (Nat.mod_lt _ (by omega))
  have d' : (w.setCell ⟨g, 1, none⟩ (.int .i64 ((p : Int) + 1))).cell? ⟨b, o + p % len, none⟩ = some (.int .u8 (U (p % len))) := (World.cell?_setCell_other _ _ _ _ (fun e => by injection e with e; exact hbg (by omega) e.symm)).trans d
  have d2' : (w.setCell ⟨g, 1, none⟩ (.int .i64 ((p : Int) + 1))).cell? ⟨b, o + (p * 7 + 3) % len, none⟩ = some (.int .u8 (U ((p * 7 + 3) % len))) := (World.cell?_setCell_other _ _ _ _ (fun e => by injection e with e; exact hbg (by omega) e.symm)).trans d2
  generalize U (p % len) = u at *
  generalize U ((p * 7 + 3) % len) = v at *
  clear hby h0 d d2
  go_enter Tryz.func40, Tryz.ntmps40
  go_wp2_with fail
  go_quiet (fail)
  go_wp2_with fail
  exact HP.out _ nq (Int.tmod_nonneg _ (xor_pos (by omega) (by omega) (by omega) (by omega))) (Int.tmod_lt_of_pos _ (by omega))
theorem Bytes.only {U : Nat → Int} {a : Option Addr} {b o len g : Nat} {w w' : World} (h : Bytes U a b o len w) (k : Only g w w') (hg : 0 < len → b ≠ g) : Bytes U a b o len w' :=
 ⟨h.1, fun i hi => ⟨(k.cell (p := ⟨b, o + i, none⟩) (World.block_lt_of_cell? w _ (h.2 i hi).1) (hg (by omega))).trans (h.2 i hi).1, (h.2 i hi).2⟩⟩
theorem Bytes.below {U : Nat → Int} {a : Option Addr} {b o len : Nat} {w w' : World} (h : Bytes U a b o len w) (k : Below w.heap.size w w') : Bytes U a b o len w' :=
 ⟨h.1, fun i hi => ⟨(k.cell (p := ⟨b, o + i, none⟩) (World.block_lt_of_cell? w _ (h.2 i hi).1)).trans (h.2 i hi).1, (h.2 i hi).2⟩⟩
def DInts (N : Nat → Int) (b o n : Nat) (w : World) : Prop := ∀ i, i < n → w.cell? ⟨b, o + i, none⟩ = some (.int .i64 (N i))
theorem ints_new (l : List Int) (w : World) (T : TypeId) : DInts (fun i => l.getD i 0) w.heap.size 0 l.length (w.alloc (.cells (l.map (Value.int .i64)).toArray T)) := by
 intro i hi
 rw [Nat.zero_add, World.cell?_alloc_new]
 simp [hi]
def NumDPost (g : Nat) (a : Option Addr) (len cap p : Nat) (N : Nat → Int) (n : Nat) (w : World) (e : Ending) (w' : World) : Prop := ∃ i : Nat, i < n ∧ e = .returned (.int .i64 (N i)) ∧ Rd g a len cap (p + 1) w' ∧ Only g w w'
theorem num_any {U : Nat → Int} {N : Nat → Int} {g : Nat} {a : Option Addr} {b o len cap p : Nat} {b2 o2 n c2 : Nat} (w : World) (hlen : len ≤ 2000) (hp : p ≤ 1000000) (hn : 1 ≤ n) (hn2 : n ≤ 1000000) (hrd : Rd g a len cap p w) (hby : Bytes U a b o len w) (hbg : 0 < len → b ≠ g) (hi : DInts N b2 o2 n w) (hb2 : b2 ≠ g) :
  Calls Tryz.prog 41 #[.pointer (some ⟨g, 0, none⟩), .slice (some ⟨b2, o2, none⟩) n c2] w (NumDPost g a len cap p N n w) := by
 have HP : Hid (∀ (i : Nat) w', i < n → Rd g a len cap (p + 1) w' → Only g w w' → NumDPost g a len cap p N n w (.returned (.int .i64 (N i))) w') := fun i w' h1 h2 h3 => ⟨i, h1, rfl, h2, h3⟩
 have HK := tuck (pick_any (n := (n : Int)) w hlen hp (by omega) (by omega) hrd hby hbg)
 have HI := tuck hi
 generalize NumDPost g a len cap p N n w = post at *
 clear hrd hby hi
 go_enter Tryz.func41, Tryz.ntmps41
 go_wp2_with fail
 refine HK.out.mono ?_
 rintro e w1 ⟨v, rfl, h0, h1, hrd, ho⟩
 obtain ⟨i, rfl⟩ : ∃ i : Nat, v = i := ⟨v.toNat, by omega⟩
 have hin : i < n := by omega
 have hc := HI.out i hin
 have hc1 : w1.cell? ⟨b2, o2 + i, none⟩ = some (.int .i64 (N i)) := (ho.cell (p := ⟨b2, o2 + i, none⟩) (World.block_lt_of_cell? w _ hc) hb2).trans hc
 have HR := tuck hrd
 have HO := tuck ho
 clear hc hrd ho HI
 have HPI := tuck (HP.out i)
 generalize N i = x at *
 go_wp2
 exact HPI.out _ hin HR.out HO.out
def OpenPost (U : Nat → Int) (b o : Nat) (w : World) (e : Ending) (w' : World) : Prop := ∃ (a : Option Addr) (len cap : Nat), e = .returned (.pointer (some ⟨w.heap.size, 0, none⟩)) ∧ len ≤ 2000 ∧ (0 < len → b < w.heap.size) ∧ Rd w.heap.size a len cap 0 w' ∧ Bytes U a b o len w' ∧ Below w.heap.size w w' ∧ w.heap.size < w'.heap.size
theorem open_any {U : Nat → Int} {a : Option Addr} {b o len cap : Nat} (w : World) (hlen : len ≤ 140737488355328) (hcap : len ≤ cap) (hby : Bytes U a b o len w) : Calls Tryz.prog 27 #[.slice a len cap] w (OpenPost U b o w) := by
 have HP : Hid (∀ l, l ≤ len → l ≤ 2000 → OpenPost U b o w (.returned (.pointer (some ⟨w.heap.size, 0, none⟩))) (w.alloc (.cells #[.slice a l cap, .int .i64 0] 74))) := fun l h1 h2 => by
  refine ⟨a, l, cap, rfl, h2, fun h0 => World.block_lt_of_cell? w _ (hby.2 0 (by omega)).1, heap_new _ _, ⟨fun h => hby.1 (by omega), fun i hi => ⟨?_, (hby.2 i (by omega)).2⟩⟩, below1 _ _, by simp⟩
  have := (hby.2 i (by omega)).1
  exact ((below1 w _).cell (p := ⟨b, o + i, none⟩) (World.block_lt_of_cell? w _ this)).trans this
 generalize OpenPost U b o w = post at *
 clear hby
 by_cases h : 2000 < len
 ·have h' : (2000 : Int) < (len : Int) := by omega
  have hc : (2000 : Int) ≤ (cap : Int) := by omega
  go_enter Tryz.func27, Tryz.ntmps27
  go_wp2
  exact HP.out 2000 (by omega) (by omega)
 ·have h' : ¬ (2000 : Int) < (len : Int) := by omega
  go_enter Tryz.func27, Tryz.ntmps27
  go_wp2
  exact HP.out len (by omega) (by omega)
end Go.Proofs.YtlbikgnanabjgaaGreat
namespace Go.Proofs.YtlbikgnanabjgaaGreat
open Go.RowKit
def OffT (Z base : Nat) (v : Value) : Nat → Prop := fun i => (Z ≤ i ∧ i < base) ∨ v.ownBlock = some i
def RowT (Z base : Nat) (l : List Tm) (v : Value) (w : World) : Prop :=
 ∃ rs : List (Tm × Value), rs.map (·.1) = l ∧ w.ownsRow base 25 3 v l.length (cellsL rs) ∧ ∀ x ∈ rs, SlX w (OffT Z base v) x.1.kids x.2
theorem RowT.nil (Z base : Nat) (w : World) : RowT Z base [] (.slice none 0 0) w :=
 ⟨[], rfl, World.ownsRow_nil _ _ _ _, fun x h => (by cases h)⟩
theorem RowT.form {Z base : Nat} {l : List Tm} {v : Value} {w : World} (h : RowT Z base l v w) : ∃ a cap, v = .slice a l.length cap := by
 obtain ⟨rs, -, h, -⟩ := h
 rcases h.2 with ⟨h1, h2⟩ | ⟨g, cap, _, h1, _⟩
 ·exact ⟨none, 0, by rw [h1, h2]⟩
 ·exact ⟨_, _, h1⟩
theorem RowT.form' {Z base q : Nat} {l : List Tm} {v : Value} {w : World} (h : RowT Z base l v w) (hl : l.length = q) : ∃ a cap, v = .slice a q cap := by
 obtain ⟨a, cap, e⟩ := h.form
 exact ⟨a, cap, by rw [e, hl]⟩
theorem RowT.lt {Z base : Nat} {l : List Tm} {v : Value} {w : World} (h : RowT Z base l v w) : ∀ g, v.ownBlock = some g → base ≤ g ∧ g < w.heap.size := by
 obtain ⟨rs, -, h, -⟩ := h
 exact h.lt
theorem RowT.below {Z base : Nat} {l : List Tm} {v : Value} {w w' : World} (h : RowT Z base l v w) (hb : Below w.heap.size w w') : RowT Z base l v w' := by
 obtain ⟨rs, h1, h2, h3⟩ := h
 exact ⟨rs, h1, h2.kept (grown_none hb) (by cases v.ownBlock <;> simp), fun x hx => (h3 x hx).below hb⟩
theorem RowT.push {Z base : Nat} {l : List Tm} {v v' : Value} {W w1 : World} {t : Tm} {s : Value} (h : RowT Z base l v W) (hs : SlX W (OffT Z base v) t.kids s)
  (hown : ∀ xs, W.ownsRow base 25 3 v l.length xs → w1.ownsRow base 25 3 v' (l.length + 1) (xs ++ [.int .i64 t.kind, .int .i64 t.num, s])) (hgrow : W.grownBy w1 v.ownBlock) (hat : v'.ownBlock = v.ownBlock ∨ v'.ownBlock = some W.heap.size) :
  RowT Z base (l ++ [t]) v' w1 := by
 obtain ⟨rs, h1, h2, h3⟩ := h
 have key : ∀ (x : List Tm) (u : Value), SlX W (OffT Z base v) x u → SlX w1 (OffT Z base v') x u := fun x u hx => hx.to fun p y hn hc => by
  have hp := World.block_lt_of_cell? W p hc
  refine ⟨?_, (World.cell?_of_block (hgrow.block p.block hp fun e => hn (Or.inr e.symm))).trans hc⟩
  rintro (h | h)
  ·exact hn (Or.inl h)
  ·rcases hat with hat | hat
   ·exact hn (Or.inr (hat ▸ h))
   ·rw [hat] at h
    simp at h
    omega
 refine ⟨rs ++ [(t, s)], by simp [h1], ?_, fun x hx => ?_⟩
 ·have := hown _ h2
  rw [cellsL_append, List.length_append]
  simpa [cellsL] using this
 ·rcases List.mem_append.1 hx with hx | hx
  ·exact key _ _ (h3 x hx)
  ·simp only [List.mem_singleton] at hx
   subst hx
   exact key _ _ hs
theorem RowT.grow {Z base q : Nat} {l : List Tm} {v : Value} {W : World} (h : RowT Z base l v W) (hl : l.length = q) : ∃ xs, W.ownsRow base 25 3 v q xs ∧
  ∀ (v' s : Value) (w1 : World) (t : Tm), SlX W (OffT Z base v) t.kids s → w1.ownsRow base 25 3 v' (q + 1) (xs ++ [.int .i64 t.kind, .int .i64 t.num, s]) →
   W.grownBy w1 v.ownBlock → (v'.ownBlock = v.ownBlock ∨ v'.ownBlock = some W.heap.size) → RowT Z base (l ++ [t]) v' w1 := by
 subst hl
 have h0 := h
 obtain ⟨rs, h1, h2, h3⟩ := h
 refine ⟨_, h2, fun v' s w1 t a1 a4 a5 a6 => h0.push a1 (fun xs hx => ?_) a5 a6⟩
 have e : xs = cellsL rs := by
  rcases hx.2 with ⟨e1, e2⟩ | ⟨g, cap, cur, e1, _, r1, _, _, _, r2⟩
  ·have n1 := hx.1
   have n2 := h2.1
   rw [e2] at n1 n2
   exact (List.length_eq_zero_iff.1 (by simpa using n1)).trans (List.length_eq_zero_iff.1 (by simpa using n2)).symm
  ·rcases h2.2 with ⟨f1, f2⟩ | ⟨g', cap', cur', f1, _, q1, _, _, _, q2⟩
   ·rw [e1] at f1
    cases f1
   ·rw [e1] at f1
    simp only [Value.slice.injEq, Option.some.injEq, Addr.mk.injEq, and_true, true_and] at f1
    obtain ⟨rfl, rfl⟩ := f1
    rw [r1] at q1
    cases q1
    rw [← r2, ← q2]
 rw [e]
 exact a4
theorem RowT.done {Z base : Nat} {l : List Tm} {v : Value} {w : World} (h : RowT Z base l v w) (hl : l.length ≤ maxLen) : SlX w (fun i => Z ≤ i ∧ i < base) l v := by
 obtain ⟨rs, h1, h2, h3⟩ := h
 have hrow := h2
 rcases h2.2 with ⟨e1, e2⟩ | ⟨g, cap, cur, rfl, r1, r2, r3⟩
 ·have : l = [] := List.length_eq_zero_iff.1 e2
  subst this
  subst e1
  exact SlX.nil _ _ _ _
 ·obtain ⟨b1, b2, b3⟩ := block_of_cells r2
  have hr : RowAt (mask w fun i => Z ≤ i ∧ i < base) 0 (rs.map (·.1)) g 0 := by
   refine RowAt.of_list (fun j u hu => ?_) fun x hx => (h3 x hx).to fun p y hn hc => ⟨fun hz => hn (Or.inl hz), hc⟩
   have := hrow.cells (g := g) rfl j u hu
   have hadd : (⟨g, 0, none⟩ : Addr).add j = ⟨g, j, none⟩ := by unfold Addr.add; split <;> simp_all
   rw [hadd] at this
   rw [Nat.zero_add]
   exact mask_cell.2 ⟨fun hz => by dsimp only at hz; omega, this⟩
  rw [h1] at hr
  exact ⟨_, _, g, 0, rfl, hl, fun _ => ⟨rfl, Nat.zero_le _⟩, hr⟩
theorem RowT.done' {Z base j : Nat} {l : List Tm} {a : Option Addr} {c : Nat} {w : World} (h : RowT Z base l (.slice a j c) w) (hl : l.length = j) (hj : j ≤ maxLen) : SlX w (fun i => Z ≤ i ∧ i < base) l (.slice a j c) := h.done (by rw [hl]; exact hj)
end Go.Proofs.YtlbikgnanabjgaaGreat
