/-
  Draw, FindP, OpenB, NumT, SpecK.
-/
import Derived.Test.YtabbbnddfcbdiaaGreatB02
import Derived.Test.YtabbbnddfcbdiaaGreatB03
import Derived.Test.YtabbbnddfcbdiaaGreatB08
import Derived.Test.YtabbbnddfcbdiaaGreatB15
import Derived.Test.YtabbbnddfcbdiaaGreatB16
import Derived.BigQuiet
import Derived.Deep.QuietTactic
import Derived.ProofKit
import Derived.Test.YtabbbnddfcbdiaaGreatProg
import Derived.WalkSpells
namespace Go.Proofs.YtabbbnddfcbdiaaGreat
open Go.RowKit
theorem xor_pos {x y : Int} (hx : 0 ≤ x) (hx2 : x < 9223372036854775808) (hy : 0 ≤ y) (hy2 : y < 9223372036854775808) : 0 ≤ bits .xor .i64 x y := by
 obtain ⟨a, rfl⟩ : ∃ a : Nat, x = a := ⟨x.toNat, by omega⟩
 obtain ⟨b, rfl⟩ : ∃ b : Nat, y = b := ⟨y.toNat, by omega⟩
 have h1 : (BitVec.ofInt 64 (a : Int)).toNat = a := by rw [BitVec.ofInt_natCast, BitVec.toNat_ofNat]; exact Nat.mod_eq_of_lt (by omega)
 have h2 : (BitVec.ofInt 64 (b : Int)).toNat = b := by rw [BitVec.ofInt_natCast, BitVec.toNat_ofNat]; exact Nat.mod_eq_of_lt (by omega)
 have h3 : a ^^^ b < 2 ^ 63 := Nat.xor_lt_two_pow (by omega) (by omega)
 show 0 ≤ IntKind.i64.wrap ((BitVec.ofInt 64 (a : Int) ^^^ BitVec.ofInt 64 (b : Int)).toNat : Int)
 rw [BitVec.toNat_xor, h1, h2, IntKind.wrap_i64]
 omega
def Bytes (U : Nat → Int) (a : Option Addr) (b o len : Nat) (w : World) : Prop := (0 < len → a = some ⟨b, o, none⟩) ∧ ∀ i, i < len → w.cell? ⟨b, o + i, none⟩ = some (.int .u8 (U i)) ∧ 0 ≤ U i ∧ U i ≤ 255
def Rd (g : Nat) (a : Option Addr) (len cap p : Nat) (w : World) : Prop := w.heap[g]? = some (.cells #[.slice a len cap, .int .i64 p] 72 (0, 0))
theorem Rd.facts {g : Nat} {a : Option Addr} {len cap p : Nat} {w : World} (h : Rd g a len cap p w) : g < w.heap.size ∧ w.cell? ⟨g, 0, none⟩ = some (.slice a len cap) ∧ w.cell? ⟨g, 1, none⟩ = some (.int .i64 p) ∧ ∀ i, w.frozen? ⟨g, i, none⟩ = false := by
 obtain ⟨h1, h2, h3⟩ := block_of_cells h
 exact ⟨h1, h2 0, h2 1, h3⟩
theorem Rd.below {g : Nat} {a : Option Addr} {len cap p : Nat} {w w' : World} (h : Rd g a len cap p w) (hb : Below w.heap.size w w') : Rd g a len cap p w' := (hb.block g h.facts.1).trans h
theorem Rd.set {g : Nat} {a : Option Addr} {len cap p q : Nat} {w : World} (h : Rd g a len cap p w) : Rd g a len cap q (w.setCell ⟨g, 1, none⟩ (.int .i64 q)) := by
 have := block_set h 1 (.int .i64 q)
 simpa [Rd] using this
theorem Bytes.cell {U : Nat → Int} {a : Option Addr} {b o len : Nat} {w : World} (h : Bytes U a b o len w) {i : Nat} (hi : i < len) : a = some ⟨b, o, none⟩ ∧ w.cell? ⟨b, o + i, none⟩ = some (.int .u8 (U i)) ∧ 0 ≤ U i ∧ U i ≤ 255 :=
 ⟨h.1 (by omega), h.2 i hi⟩
def PickPost (g : Nat) (a : Option Addr) (len cap p : Nat) (n : Int) (w : World) (e : Ending) (w' : World) : Prop := ∃ v : Int, e = .returned (.int .i64 v) ∧ 0 ≤ v ∧ v < n ∧ Rd g a len cap (p + 1) w' ∧ Only g w w'
set_option maxRecDepth 100000 in
theorem pick_any {U : Nat → Int} {g : Nat} {a : Option Addr} {b o len cap p : Nat} {n : Int} (w : World) (hlen : len ≤ 2000) (hp : p ≤ 1000000) (hn : 1 ≤ n) (hn2 : n ≤ 1000000) (hrd : Rd g a len cap p w) (hby : Bytes U a b o len w) (hbg : 0 < len → b ≠ g) :
  Calls Tryz.prog 79 #[.pointer (some ⟨g, 0, none⟩), .int .i64 n] w (PickPost g a len cap p n w) := by
 obtain ⟨hg, c0, c1, cf⟩ := hrd.facts
 have HP : Hid (∀ (v : Int) (k : Nat), 0 ≤ v → v < n → PickPost g a len cap p n w (.returned (.int .i64 v)) ((w.setCell ⟨g, 1, none⟩ (.int .i64 ((p : Int) + 1))).drewN k)) := fun v k h1 h2 =>
  ⟨v, rfl, h1, h2, by have := hrd.set (q := p + 1); rw [Int.natCast_succ] at this; exact this, ((Only.refl g w).setCell (Or.inl rfl) _).drewN k⟩
 have HP0 : Hid (∀ (v : Int), 0 ≤ v → v < n → PickPost g a len cap p n w (.returned (.int .i64 v)) (w.setCell ⟨g, 1, none⟩ (.int .i64 ((p : Int) + 1)))) := fun v h1 h2 =>
  ⟨v, rfl, h1, h2, by have := hrd.set (q := p + 1); rw [Int.natCast_succ] at this; exact this, (Only.refl g w).setCell (Or.inl rfl) _⟩
 generalize PickPost g a len cap p n w = post at *
 clear hrd
 have hn3 : ¬ n < 1 := by omega
 by_cases h0 : len = 0
 ·subst h0
  go_enter Tryz.func79, Tryz.ntmps79
  go_wp2
  exact HP0.out 0 (by omega) (by omega)
 have h0' : ((len : Int) == 0) = false := by simpa using h0
 by_cases hlt : p < len
 ·have hlti : ((p : Int) < (len : Int)) := by omega
  obtain ⟨rfl, d, u0, u1⟩ := hby.cell hlt
  have d' : (w.setCell ⟨g, 1, none⟩ (.int .i64 ((p : Int) + 1))).cell? ⟨b, o + p, none⟩ = some (.int .u8 (U p)) := (World.cell?_setCell_other _ _ _ _ (fun e => by injection e with e; exact hbg (by omega) e.symm)).trans d
  generalize U p = u at *
  clear hby h0 d
  go_enter Tryz.func79, Tryz.ntmps79
  go_wp2
  exact HP0.out _ (Int.emod_nonneg _ (by omega)) (Int.emod_lt_of_pos _ (by omega))
 ·have hge : ¬ ((p : Int) < (len : Int)) := by omega
  have hp0 : (0 : Int) ≤ (p : Int) % (len : Int) := Int.emod_nonneg _ (by omega)
  have hp1 : (p : Int) % (len : Int) < (len : Int) := Int.emod_lt_of_pos _ (by omega)
  have hq0 : (0 : Int) ≤ ((p : Int) * 7 + 3) % (len : Int) := Int.emod_nonneg _ (by omega)
  have hq1 : ((p : Int) * 7 + 3) % (len : Int) < (len : Int) := Int.emod_lt_of_pos _ (by omega)
  have hd0 : (0 : Int) ≤ (p : Int) / (len : Int) := Int.ediv_nonneg (by omega) (by omega)
  have hd1 : (p : Int) / (len : Int) ≤ (p : Int) := Int.ediv_le_self _ (by omega)
  obtain ⟨rfl, d, u0, u1⟩ := hby.cell (i := p % len) (Nat.mod_lt _ (by omega))
  obtain ⟨_, d2, v0, v1⟩ := hby.cell (i := (p * 7 + 3) % len) (Nat.mod_lt _ (by omega))
  have d' : (w.setCell ⟨g, 1, none⟩ (.int .i64 ((p : Int) + 1))).cell? ⟨b, o + p % len, none⟩ = some (.int .u8 (U (p % len))) := (World.cell?_setCell_other _ _ _ _ (fun e => by injection e with e; exact hbg (by omega) e.symm)).trans d
  have d2' : (w.setCell ⟨g, 1, none⟩ (.int .i64 ((p : Int) + 1))).cell? ⟨b, o + (p * 7 + 3) % len, none⟩ = some (.int .u8 (U ((p * 7 + 3) % len))) := (World.cell?_setCell_other _ _ _ _ (fun e => by injection e with e; exact hbg (by omega) e.symm)).trans d2
  generalize U (p % len) = u at *
  generalize U ((p * 7 + 3) % len) = v at *
  clear hby h0 d d2
  go_enter Tryz.func79, Tryz.ntmps79
  go_wp2_with fail
  go_quiet (fail)
  go_wp2_with fail
  exact HP.out _ nq (Int.tmod_nonneg _ (xor_pos (by omega) (by omega) (by omega) (by omega))) (Int.tmod_lt_of_pos _ (by omega))
theorem Bytes.only {U : Nat → Int} {a : Option Addr} {b o len g : Nat} {w w' : World} (h : Bytes U a b o len w) (k : Only g w w') (hg : 0 < len → b ≠ g) : Bytes U a b o len w' :=
 ⟨h.1, fun i hi => ⟨(k.cell (p := ⟨b, o + i, none⟩) (World.block_lt_of_cell? w _ (h.2 i hi).1) (hg (by omega))).trans (h.2 i hi).1, (h.2 i hi).2⟩⟩
theorem Bytes.below {U : Nat → Int} {a : Option Addr} {b o len : Nat} {w w' : World} (h : Bytes U a b o len w) (k : Below w.heap.size w w') : Bytes U a b o len w' :=
 ⟨h.1, fun i hi => ⟨(k.cell (p := ⟨b, o + i, none⟩) (World.block_lt_of_cell? w _ (h.2 i hi).1)).trans (h.2 i hi).1, (h.2 i hi).2⟩⟩
def DInts (N : Nat → Int) (b o n : Nat) (w : World) : Prop := ∀ i, i < n → w.cell? ⟨b, o + i, none⟩ = some (.int .i64 (N i))
theorem ints_new (l : List Int) (w : World) (T : TypeId) : DInts (fun i => l.getD i 0) w.heap.size 0 l.length (w.alloc (.cells (l.map (Value.int .i64)).toArray T)) := by
 intro i hi
 rw [Nat.zero_add, World.cell?_alloc_new]
 simp [hi]
def NumDPost (g : Nat) (a : Option Addr) (len cap p : Nat) (N : Nat → Int) (n : Nat) (w : World) (e : Ending) (w' : World) : Prop := ∃ i : Nat, i < n ∧ e = .returned (.int .i64 (N i)) ∧ Rd g a len cap (p + 1) w' ∧ Only g w w'
theorem num_any {U : Nat → Int} {N : Nat → Int} {g : Nat} {a : Option Addr} {b o len cap p : Nat} {b2 o2 n c2 : Nat} (w : World) (hlen : len ≤ 2000) (hp : p ≤ 1000000) (hn : 1 ≤ n) (hn2 : n ≤ 1000000) (hrd : Rd g a len cap p w) (hby : Bytes U a b o len w) (hbg : 0 < len → b ≠ g) (hi : DInts N b2 o2 n w) (hb2 : b2 ≠ g) :
  Calls Tryz.prog 80 #[.pointer (some ⟨g, 0, none⟩), .slice (some ⟨b2, o2, none⟩) n c2] w (NumDPost g a len cap p N n w) := by
 have HP : Hid (∀ (i : Nat) w', i < n → Rd g a len cap (p + 1) w' → Only g w w' → NumDPost g a len cap p N n w (.returned (.int .i64 (N i))) w') := fun i w' h1 h2 h3 => ⟨i, h1, rfl, h2, h3⟩
 have HK := tuck (pick_any (n := (n : Int)) w hlen hp (by omega) (by omega) hrd hby hbg)
 have HI := tuck hi
 generalize NumDPost g a len cap p N n w = post at *
 clear hrd hby hi
 go_enter Tryz.func80, Tryz.ntmps80
 go_wp2_with fail
 refine HK.out.mono ?_
 rintro e w1 ⟨v, rfl, h0, h1, hrd, ho⟩
 obtain ⟨i, rfl⟩ : ∃ i : Nat, v = i := ⟨v.toNat, by omega⟩
 have hin : i < n := by omega
 have hc := HI.out i hin
 have hc1 : w1.cell? ⟨b2, o2 + i, none⟩ = some (.int .i64 (N i)) := (ho.cell (p := ⟨b2, o2 + i, none⟩) (World.block_lt_of_cell? w _ hc) hb2).trans hc
 have HR := tuck hrd
 have HO := tuck ho
 clear hc hrd ho HI
 have HPI := tuck (HP.out i)
 generalize N i = x at *
 go_wp2
 exact HPI.out _ hin HR.out HO.out
def OpenPost (U : Nat → Int) (b o : Nat) (w : World) (e : Ending) (w' : World) : Prop := ∃ (a : Option Addr) (len cap : Nat), e = .returned (.pointer (some ⟨w.heap.size, 0, none⟩)) ∧ len ≤ 2000 ∧ (0 < len → b < w.heap.size) ∧ Rd w.heap.size a len cap 0 w' ∧ Bytes U a b o len w' ∧ Below w.heap.size w w' ∧ w.heap.size < w'.heap.size
theorem open_any {U : Nat → Int} {a : Option Addr} {b o len cap : Nat} (w : World) (hlen : len ≤ 140737488355328) (hcap : len ≤ cap) (hby : Bytes U a b o len w) : Calls Tryz.prog 44 #[.slice a len cap] w (OpenPost U b o w) := by
 have HP : Hid (∀ l, l ≤ len → l ≤ 2000 → OpenPost U b o w (.returned (.pointer (some ⟨w.heap.size, 0, none⟩))) (w.alloc (.cells #[.slice a l cap, .int .i64 0] 72))) := fun l h1 h2 => by
  refine ⟨a, l, cap, rfl, h2, fun h0 => World.block_lt_of_cell? w _ (hby.2 0 (by omega)).1, heap_new _ _, ⟨fun h => hby.1 (by omega), fun i hi => ⟨?_, (hby.2 i (by omega)).2⟩⟩, below1 _ _, by simp⟩
  have := (hby.2 i (by omega)).1
  exact ((below1 w _).cell (p := ⟨b, o + i, none⟩) (World.block_lt_of_cell? w _ this)).trans this
 generalize OpenPost U b o w = post at *
 clear hby
 by_cases h : 2000 < len
 ·have h' : (2000 : Int) < (len : Int) := by omega
  have hc : (2000 : Int) ≤ (cap : Int) := by omega
  go_enter Tryz.func44, Tryz.ntmps44
  go_wp2
  exact HP.out 2000 (by omega) (by omega)
 ·have h' : ¬ (2000 : Int) < (len : Int) := by omega
  go_enter Tryz.func44, Tryz.ntmps44
  go_wp2
  exact HP.out len (by omega) (by omega)
end Go.Proofs.YtabbbnddfcbdiaaGreat
namespace Go.Proofs.YtabbbnddfcbdiaaGreat
open Go.ChangeShapes Go.WideShapes Go.ChangeAt Go.RowKit Go.Deep
theorem cells_u8 : Tryz.prog.cellsOf 5 = 1 := by kernel_rfl
set_option maxRecDepth 100000 in
theorem open_bytes {H : Type} {enc : TypeId × Value → H} {W : World} {v : Value} {d : DataW H} {ps : List MemPlace} (hok : Value.okWide Tryz.prog W .any 0 22 v) (h : DataW.Trod enc Tryz.prog W 0 (fun _ => true) true 22 v d ps) :
  ∃ (U : Nat → Int) (a : Option Addr) (b o len cap : Nat), v = .slice a len cap ∧ len ≤ cap ∧ cap ≤ maxLen ∧ (0 < len → b < W.heap.size) ∧ Bytes U a b o len W := by
 obtain ⟨a0, len, cap, rfl⟩ := okWide_slice Tryz.underlying22 hok
 obtain ⟨fuel, hf⟩ := h
 rcases open_ints Tryz.underlying22 Tryz.underlying5 cells_u8 hf with ⟨hcs, _⟩ | ⟨a, len', cap', zs, hcs, _, hl, hm, hz, _, hcell, hwz⟩
 ·simp [Value.cells] at hcs
  obtain ⟨rfl, rfl, rfl⟩ := hcs
  exact ⟨fun _ => 0, none, 0, 0, 0, 0, rfl, Nat.le_refl _, Nat.zero_le _, fun h => by omega, fun h => by omega, fun i hi => by omega⟩
 ·simp [Value.cells] at hcs
  obtain ⟨rfl, rfl, rfl⟩ := hcs
  simp only [if_true] at hz
  obtain ⟨b, o, spot⟩ := a
  have hsp : 0 < len → spot = none := fun h0 => by simpa [Addr.add] using World.cell?_spot (hcell 0 (by omega))
  have hc : ∀ i, i < len → W.cell? ⟨b, o + i, none⟩ = some (.int .u8 (zs.getD i 0)) := fun i hi => by
   have h1 := hsp (by omega)
   subst h1
   have h2 := hcell i (by omega)
   have ea : (Addr.mk b o none).add i = ⟨b, o + i, none⟩ := by unfold Addr.add; split <;> simp_all
   rwa [ea] at h2
  refine ⟨fun i => zs.getD i 0, some ⟨b, o, spot⟩, b, o, len, cap, rfl, hl, hm, fun h0 => World.block_lt_of_cell? W _ (hc 0 h0), fun h0 => by rw [hsp h0], fun i hi => ⟨hc i hi, ?_⟩⟩
  have hi2 : i < zs.length := by omega
  have hw := hwz _ (List.getElem_mem hi2)
  have e : zs.getD i 0 = zs[i] := by simp [hi2]
  show 0 ≤ zs.getD i 0 ∧ zs.getD i 0 ≤ 255
  rw [e]
  simpa [Lit.wf, IntKind.min, IntKind.max, IntKind.signed, IntKind.bits] using hw
end Go.Proofs.YtabbbnddfcbdiaaGreat
namespace Go.Proofs.YtabbbnddfcbdiaaGreat
open Go.RowKit
def SReplPost (w : World) (P : Prop) (T : Tm) (e : Ending) (w' : World) : Prop := Below w.heap.size w w' ∧ ∃ v, e = .returned (.tuple #[v, .bool (tr P)]) ∧ TmIn w' 0 (orZero P T) v
theorem SReplPost.no {w w' : World} {P : Prop} {T : Tm} (hP : ¬ P) (hb : Below w.heap.size w w') : SReplPost w P T (.returned (.tuple #[.agg #[.int .i64 0, .int .i64 0, .slice none 0 0], .bool false])) w' :=
 ⟨hb, _, by rw [tr_not hP], by unfold orZero; rw [if_neg hP]; exact ⟨_, rfl, SlIn.nil _ _ _ _⟩⟩
theorem SReplPost.yes {w w' : World} {P : Prop} {T : Tm} {s : Value} (hP : P) (hb : Below w.heap.size w w') (hs : SlIn w' 0 T.kids s) : SReplPost w P T (.returned (.tuple #[.agg #[.int .i64 T.kind, .int .i64 T.num, s], .bool true])) w' :=
 ⟨hb, _, by rw [tr_of hP], by unfold orZero; rw [if_pos hP]; exact ⟨_, rfl, hs⟩⟩
theorem SlIn.set3 {w : World} {B g i j k : Nat} {l : List Tm} {v x y z : Value} (h : SlIn w B l v) (hg : g < B) : SlIn (((w.setCell ⟨g, i, none⟩ x).setCell ⟨g, j, none⟩ y).setCell ⟨g, k, none⟩ z) B l v :=
 ((h.setCell (p := ⟨g, i, none⟩) hg _).setCell (p := ⟨g, j, none⟩) hg _).setCell (p := ⟨g, k, none⟩) hg _
end Go.Proofs.YtabbbnddfcbdiaaGreat
namespace Go.Proofs.YtabbbnddfcbdiaaGreat
def kidT (t : Tm) (i : Nat) : Tm := t.kids.getD i zeroT
def Tm.contr (t : Tm) : Tm :=
 if t.redex = 1 then (kidT (kidT t 0) 1).subst (kidT t 1) 0 0 else if t.redex = 2 then kidT t 1
 else if t.redex = 3 then .mk 5 0 [.mk 5 0 [kidT t 2, kidT (kidT t 3) 0], .mk 9 0 [kidT t 0, kidT t 1, kidT t 2, kidT (kidT t 3) 0]]
 else if t.redex = 4 then kidT t 2 else if t.redex = 5 then kidT (kidT t 0) 1 else kidT (kidT t 0) 2
section
variable (rl mo : Bool)
mutual
def Tm.find : Tm → Option (List (Tm × Nat) × Tm)
 | .mk k n l =>
  if (Tm.mk k n l).redex ≠ 0 ∧ rl = false then some ([], .mk k n l) else
  match findL (.mk k n l) l 0 with
  | some x => some x
  | none => if (Tm.mk k n l).redex ≠ 0 then some ([], .mk k n l) else none
def findL (t0 : Tm) : List Tm → Nat → Option (List (Tm × Nat) × Tm)
 | [], _ => none
 | t :: l, i =>
  match (if mo = true ∧ mainIx t0.kind ≠ (i : Int) then none else t.find) with
  | some (p, r) => some ((t0, i) :: p, r)
  | none => findL t0 l (i + 1)
end
mutual
def Tm.step : Tm → Option Tm
 | .mk k n l =>
  if (Tm.mk k n l).redex ≠ 0 ∧ rl = false then some (Tm.mk k n l).contr else
  match stepL k l 0 with
  | some l' => some (.mk k n l')
  | none => if (Tm.mk k n l).redex ≠ 0 then some (Tm.mk k n l).contr else none
def stepL (k : Int) : List Tm → Nat → Option (List Tm)
 | [], _ => none
 | t :: l, i =>
  match (if mo = true ∧ mainIx k ≠ (i : Int) then none else t.step) with
  | some t' => some (t' :: l)
  | none => (stepL k l (i + 1)).map (t :: ·)
end
end
def around : List (Tm × Nat) → Tm → Tm
 | [], x => x
 | (t, i) :: p, x => .mk t.kind t.num (t.kids.set i (around p x))
section
variable {rl mo : Bool}
mutual
theorem Tm.find_step : ∀ t : Tm, t.step rl mo = (t.find rl mo).map fun x => around x.1 x.2.contr
 | .mk k n l => by
  rw [Tm.step, Tm.find]
  by_cases h : (Tm.mk k n l).redex ≠ 0 ∧ rl = false
  ·rw [if_pos h, if_pos h]; rfl
  ·rw [if_neg h, if_neg h]
   have hl : Option.map (fun m => Tm.mk k n m) (stepL rl mo k l 0) = Option.map (fun x => around x.1 x.2.contr) (findL rl mo (.mk k n l) l 0) := findL_step (Tm.mk k n l) l [] rfl
   cases hf : findL rl mo (.mk k n l) l 0 with
   | none =>
    rw [hf] at hl
    have hs : stepL rl mo k l 0 = none := by
     cases e : stepL rl mo k l 0 with
     | none => rfl
     | some y => rw [e] at hl; simp at hl
    rw [hs]
    by_cases h2 : (Tm.mk k n l).redex ≠ 0
    ·simp only [if_pos h2]; rfl
    ·simp only [if_neg h2]; rfl
   | some x =>
    rw [hf] at hl
    cases e : stepL rl mo k l 0 with
    | none => rw [e] at hl; simp at hl
    | some y =>
     rw [e] at hl
     simpa using hl
theorem findL_step (t0 : Tm) : ∀ (l pre : List Tm), t0.kids = pre ++ l → (stepL rl mo t0.kind l pre.length).map (fun m => Tm.mk t0.kind t0.num (pre ++ m)) = (findL rl mo t0 l pre.length).map fun x => around x.1 x.2.contr
 | [], pre, _ => by rw [stepL, findL]; rfl
 | t :: l, pre, h => by
  have ih := findL_step t0 l (pre ++ [t]) (by rw [h, List.append_assoc]; rfl)
  rw [List.length_append, List.length_singleton] at ih
  rw [stepL, findL]
  by_cases hm : mo = true ∧ mainIx t0.kind ≠ (pre.length : Int)
  ·rw [if_pos hm, if_pos hm]
   show Option.map _ (Option.map _ _) = Option.map _ (findL rl mo t0 l (pre.length + 1))
   rw [← ih, Option.map_map]
   congr 1
   funext m
   simp
  ·rw [if_neg hm, if_neg hm, Tm.find_step t]
   cases hf : t.find rl mo with
   | none =>
    show Option.map _ (Option.map _ _) = Option.map _ (findL rl mo t0 l (pre.length + 1))
    rw [← ih, Option.map_map]
    congr 1
    funext m
    simp
   | some x =>
    obtain ⟨p, r⟩ := x
    show some (Tm.mk t0.kind t0.num (pre ++ around p r.contr :: l)) = some (around ((t0, pre.length) :: p) r.contr)
    rw [around, h, List.set_append_right _ _ (Nat.le_refl _), Nat.sub_self]
    rfl
end
end
end Go.Proofs.YtabbbnddfcbdiaaGreat
namespace Go.Proofs.YtabbbnddfcbdiaaGreat
open Go.RowKit
theorem numT_rootOk (m : Nat) : (numT m).rootOk := by
 cases m with
 | zero => exact ⟨rfl, by decide, by decide⟩
 | succ m => exact ⟨rfl, show (0 : Int) ≤ 0 by decide, show (0 : Int) ≤ mostN 8 by decide⟩
theorem hgt_numT (m : Nat) : (numT m).hgt = m + 1 := by
 induction m with
 | zero => rw [numT, Tm.hgt, hgts]
 | succ m ih => rw [numT, Tm.hgt, hgts, hgts, ih]; omega
theorem allOk_numT (m : Nat) : (numT m).allOk := by
 induction m with
 | zero => exact ⟨numT_rootOk 0, trivial⟩
 | succ m ih => exact ⟨numT_rootOk (m + 1), ih, trivial⟩
theorem valid_numT {m : Nat} (h : m ≤ 20) : (numT m).Valid := ⟨allOk_numT m, by rw [hgt_numT]; omega, by rw [numT_size]; omega⟩
end Go.Proofs.YtabbbnddfcbdiaaGreat
