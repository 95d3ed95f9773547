/-
  CurA.
-/
import Derived.Test.YtpddjebdncaceaaF06
import Derived.Test.YtpddjebdncaceaaF07
import Derived.Test.YtpddjebdncaceaaF31
import Derived.BigQuiet
import Derived.Deep.QuietTactic
import Derived.ProofKit
import Derived.Test.YtpddjebdncaceaaProg
import Derived.WalkSpells
namespace Go.Proofs.Ytpddjebdncaceaa
open Go.RowKit
set_option linter.unusedVariables false
def Cur (g : Nat) (s : ByteArray) (a c : Nat) (fo : Value) (w : World) : Prop := ∃ (cs : Array Value) (T : TypeId), w.heap[g]? = some (.cells cs T (0, 0)) ∧ cs[0]? = some (.string s) ∧ cs[1]? = some (.int .i64 a) ∧ cs[2]? = some (.int .i64 c) ∧ cs[3]? = some fo
def Turn (g : Nat) (w w' : World) : Prop := Only g w w' ∧ ∀ (cs : Array Value) (T : TypeId), w.heap[g]? = some (.cells cs T (0, 0)) → ∃ cs', w'.heap[g]? = some (.cells cs' T (0, 0)) ∧ ∀ i, i ≠ 1 → i ≠ 2 → cs'[i]? = cs[i]?
theorem Cur.facts {g : Nat} {s : ByteArray} {a c : Nat} {fo : Value} {w : World} (h : Cur g s a c fo w) : g < w.heap.size ∧ w.cell? ⟨g, 0, none⟩ = some (.string s) ∧ w.cell? ⟨g, 1, none⟩ = some (.int .i64 a) ∧ w.cell? ⟨g, 2, none⟩ = some (.int .i64 c) ∧ w.cell? ⟨g, 3, none⟩ = some fo ∧ ∀ i, w.frozen? ⟨g, i, none⟩ = false := by
 obtain ⟨cs, T, h0, h1, h2, h3, h4⟩ := h
 obtain ⟨z, hc, hf⟩ := block_of_cells h0
 exact ⟨z, (hc 0).trans h1, (hc 1).trans h2, (hc 2).trans h3, (hc 3).trans h4, hf⟩
theorem Turn.refl (g : Nat) (w : World) : Turn g w w := ⟨Only.refl g w, fun cs T h => ⟨cs, h, fun _ _ _ => rfl⟩⟩
theorem Turn.trans {g : Nat} {a b c : World} (h : Turn g a b) (k : Turn g b c) : Turn g a c :=
 ⟨h.1.trans k.1, fun cs T hc => by
  obtain ⟨cs', h1, h2⟩ := h.2 cs T hc
  obtain ⟨cs'', h3, h4⟩ := k.2 cs' T h1
  exact ⟨cs'', h3, fun i hi hj => (h4 i hi hj).trans (h2 i hi hj)⟩⟩
theorem Turn.of_below {g : Nat} {w w' : World} (h : Below w.heap.size w w') : Turn g w w' :=
 ⟨(Only.refl g w).of_below h, fun cs T hc => ⟨cs, (h.block g (Array.getElem?_eq_some_iff.1 hc).1).trans hc, fun _ _ _ => rfl⟩⟩
theorem Turn.set {g : Nat} {w : World} (i : Nat) (hi : i = 1 ∨ i = 2) (u : Value) : Turn g w (w.setCell ⟨g, i, none⟩ u) :=
 ⟨(Only.refl g w).setCell (Or.inl rfl) u, fun cs T hc => ⟨_, block_set hc i u, fun j h1 h2 => by
  rw [Array.getElem?_setIfInBounds_ne (by rcases hi with rfl | rfl <;> omega)]⟩⟩
theorem Turn.drewN {g : Nat} {a b : World} (h : Turn g a b) (n : Nat) : Turn g a (b.drewN n) := ⟨h.1.drewN n, fun cs T hc => h.2 cs T hc⟩
theorem Turn.far {g : Nat} {a b : World} (h : Turn g a b) {p : Addr} (hp : a.heap.size ≤ p.block) (hg : g < a.heap.size) (u : Value) : Turn g a (b.setCell p u) :=
 ⟨h.1.setCell (Or.inr hp) u, fun cs T hc => by
  obtain ⟨cs', h1, h2⟩ := h.2 cs T hc
  exact ⟨cs', (Below.heap_setCell b p u g (by omega)).trans h1, h2⟩⟩
theorem Turn.below {g : Nat} {a b c : World} (h : Turn g a b) (k : Below b.heap.size b c) : Turn g a c := h.trans (Turn.of_below k)
theorem Turn.alloc {g : Nat} {a b : World} (h : Turn g a b) (o : Obj) : Turn g a (b.alloc o) := h.below (below1 _ _)
theorem Cur.below {g : Nat} {s : ByteArray} {a c : Nat} {fo : Value} {w w' : World} (h : Cur g s a c fo w) (k : Below w.heap.size w w') : Cur g s a c fo w' := by
 obtain ⟨cs, T, e0, e⟩ := h
 exact ⟨cs, T, (k.block g (Array.getElem?_eq_some_iff.1 e0).1).trans e0, e⟩
theorem Cur.alloc {g : Nat} {s : ByteArray} {a c : Nat} {fo : Value} {w : World} (h : Cur g s a c fo w) (o : Obj) : Cur g s a c fo (w.alloc o) := h.below (below1 _ _)
theorem Cur.drewN {g : Nat} {s : ByteArray} {a c : Nat} {fo : Value} {w : World} (h : Cur g s a c fo w) (n : Nat) : Cur g s a c fo (w.drewN n) := h
theorem Cur.far {g : Nat} {s : ByteArray} {a c : Nat} {fo : Value} {w : World} (h : Cur g s a c fo w) {p : Addr} (hp : p.block ≠ g) (u : Value) : Cur g s a c fo (w.setCell p u) := by
 obtain ⟨cs, T, e0, e⟩ := h
 exact ⟨cs, T, (Below.heap_setCell w p u g (fun e => hp e.symm)).trans e0, e⟩
theorem Cur.set1 {g : Nat} {s : ByteArray} {a c : Nat} {fo : Value} {w : World} (h : Cur g s a c fo w) (a' : Nat) : Cur g s a' c fo (w.setCell ⟨g, 1, none⟩ (.int .i64 a')) := by
 obtain ⟨cs, T, e0, e1, e2, e3, e4⟩ := h
 have hz : 1 < cs.size := (Array.getElem?_eq_some_iff.1 e2).1
 refine ⟨_, T, block_set e0 1 _, ?_, ?_, ?_, ?_⟩
 ·rw [Array.getElem?_setIfInBounds_ne (by decide)]; exact e1
 ·rw [Array.getElem?_setIfInBounds_self_of_lt hz]
 ·rw [Array.getElem?_setIfInBounds_ne (by decide)]; exact e3
 ·rw [Array.getElem?_setIfInBounds_ne (by decide)]; exact e4
theorem Cur.set2 {g : Nat} {s : ByteArray} {a c : Nat} {fo : Value} {w : World} (h : Cur g s a c fo w) (c' : Nat) : Cur g s a c' fo (w.setCell ⟨g, 2, none⟩ (.int .i64 c')) := by
 obtain ⟨cs, T, e0, e1, e2, e3, e4⟩ := h
 have hz : 2 < cs.size := (Array.getElem?_eq_some_iff.1 e3).1
 refine ⟨_, T, block_set e0 2 _, ?_, ?_, ?_, ?_⟩
 ·rw [Array.getElem?_setIfInBounds_ne (by decide)]; exact e1
 ·rw [Array.getElem?_setIfInBounds_ne (by decide)]; exact e2
 ·rw [Array.getElem?_setIfInBounds_self_of_lt hz]
 ·rw [Array.getElem?_setIfInBounds_ne (by decide)]; exact e4
def BoolW (b : Bool) (P : World → Prop) (e : Ending) (w' : World) : Prop := e = .returned (.bool b) ∧ P w'
theorem rd_enter_no (g : Nat) (s : ByteArray) (a c : Nat) (fo : Value) (D : Nat) (w : World) (h : Cur g s a c fo w) (hc : c ≤ 400) (hD : D ≤ 1000) (hno : c = 400 ∨ 30 < D) :
  Calls Try.prog 66 #[.pointer (some ⟨g, 0, none⟩), .int .i64 D] w (BoolW false fun w' => w' = w) := by
 obtain ⟨hg, c0, c1, c2, c3, cf⟩ := h.facts
 have HP : Hid (BoolW false (fun w' => w' = w) (.returned (.bool false)) w) := ⟨rfl, rfl⟩
 generalize BoolW false (fun w' => w' = w) = post at *
 by_cases h4 : c = 400
 ·have h4' : ((c : Int) == 400) = true := by rw [h4]; rfl
  clear h hno
  go_enter Try.func66, Try.ntmps66
  go_wp2
  exact HP.out
 ·have h4' : ((c : Int) == 400) = false := by simp; omega
  have hd : decide ((30 : Int) < (D : Int)) = true := decide_eq_true (by omega)
  clear h hno
  go_enter Try.func66, Try.ntmps66
  go_wp2
  exact HP.out
theorem rd_enter_yes (g : Nat) (s : ByteArray) (a c : Nat) (fo : Value) (D : Nat) (w : World) (h : Cur g s a c fo w) (hc : c < 400) (hD : D ≤ 30) :
  Calls Try.prog 66 #[.pointer (some ⟨g, 0, none⟩), .int .i64 D] w (BoolW true fun w' => Turn g w w' ∧ Cur g s a (c + 1) fo w') := by
 obtain ⟨hg, c0, c1, c2, c3, cf⟩ := h.facts
 have HP : Hid (BoolW true (fun w' => Turn g w w' ∧ Cur g s a (c + 1) fo w') (.returned (.bool true)) (w.setCell ⟨g, 2, none⟩ (.int .i64 ((c : Int) + 1)))) := tuck ⟨rfl, Turn.set 2 (Or.inr rfl) _, by have := h.set2 (c + 1); rwa [Int.natCast_succ] at this⟩
 generalize BoolW true (fun w' => Turn g w w' ∧ Cur g s a (c + 1) fo w') = post at *
 have h4' : ((c : Int) == 400) = false := by simp; omega
 have hd : decide ((30 : Int) < (D : Int)) = false := decide_eq_false (by omega)
 clear h
 go_enter Try.func66, Try.ntmps66
 go_wp2
 exact HP.out
def ByteW (b : Nat) (P : World → Prop) (e : Ending) (w' : World) : Prop := e = .returned (.int .u8 b) ∧ P w'
theorem byteAt_end {s : ByteArray} {a : Nat} (h : s.size ≤ a) : byteAt s a = 0 := by unfold byteAt; rw [dif_neg (by omega)]
theorem rd_next_any (g : Nat) (s : ByteArray) (a c : Nat) (fo : Value) (w : World) (h : Cur g s a c fo w) (ha : a ≤ s.size) (hs : s.size ≤ 1152921504606846976) :
  Calls Try.prog 64 #[.pointer (some ⟨g, 0, none⟩)] w (ByteW (byteAt s a) fun w' => Turn g w w' ∧ Cur g s (if a < s.size then a + 1 else a) c fo w') := by
 obtain ⟨hg, c0, c1, c2, c3, cf⟩ := h.facts
 by_cases hlt : a < s.size
 ·rw [if_pos hlt]
  have HP : Hid (∀ n m, ByteW (byteAt s a) (fun w' => Turn g w w' ∧ Cur g s (a + 1) c fo w') (.returned (.int .u8 (s[a].toNat : Int))) (((w.drewN n).setCell ⟨g, 1, none⟩ (.int .i64 ((a : Int) + 1))).drewN m)) := tuck fun n m => by
   refine ⟨by rw [byteAt_eq hlt], ((Turn.refl g w).drewN n |>.trans (Turn.set 1 (Or.inl rfl) _)).drewN m, ?_⟩
   have := ((h.drewN n).set1 (a + 1)).drewN m
   rwa [Int.natCast_succ] at this
  generalize ByteW (byteAt s a) (fun w' => Turn g w w' ∧ Cur g s (a + 1) c fo w') = post at *
  have hne : ((a : Int) == (s.size : Int)) = false := by simp; omega
  have hi : (a : Int) + 1 - 1 < (s.size : Int) := by omega
  have hw : IntKind.i64.wrap ((a : Int) + 1 - 1) = (a : Int) := by rw [show (a : Int) + 1 - 1 = a by omega]; exact IntWalk.i64_in _ (by omega)
  have hi2 : (a : Int) < (s.size : Int) := by omega
  clear h
  go_enter Try.func64, Try.ntmps64
  go_wp2_with fail
  go_quiet (fail)
  go_wp2_with fail
  go_quiet (fail)
  go_wp2_with fail
  exact HP.out _ _
 ·rw [if_neg hlt]
  have HP : Hid (∀ n, ByteW (byteAt s a) (fun w' => Turn g w w' ∧ Cur g s a c fo w') (.returned (.int .u8 0)) (w.drewN n)) := tuck fun n =>
   ⟨by rw [byteAt_end (by omega)]; rfl, (Turn.refl g w).drewN n, h.drewN n⟩
  generalize ByteW (byteAt s a) (fun w' => Turn g w w' ∧ Cur g s a c fo w') = post at *
  have hne : ((a : Int) == (s.size : Int)) = true := by simp; omega
  clear h
  go_enter Try.func64, Try.ntmps64
  go_wp2_with fail
  go_quiet (fail)
  go_wp2_with fail
  exact HP.out _
def EndIs (p : ByteArray) (e : Nat) : Prop := (e = 0 ∧ p = ByteArray.mk #[]) ∨ (0 < e ∧ e < 256 ∧ p = ByteArray.mk #[UInt8.ofNat e])
def pfx (t p : ByteArray) : Bool := decide (p.size ≤ t.size) && (t.extract 0 p.size).toList == p.toList
theorem rd_slHas_any (t p : ByteArray) (w : World) (ht : t.size ≤ 1152921504606846976) : Calls Try.prog 76 #[.string t, .string p] w (BoolW (pfx t p) fun w' => w' = w) := by
 have HP : Hid (∀ v, v = pfx t p → BoolW (pfx t p) (fun w' => w' = w) (.returned (.bool v)) w) := tuck fun v h => by rw [h]; exact ⟨rfl, rfl⟩
 generalize BoolW (pfx t p) (fun w' => w' = w) = post at *
 by_cases h : p.size ≤ t.size
 ·have h1 : decide ((p.size : Int) ≤ (t.size : Int)) = true := decide_eq_true (by omega)
  have h2 : decide (p.size ≤ t.size) = true := decide_eq_true h
  have h3 : (p.size : Int) ≤ (t.size : Int) := by omega
  go_enter Try.func76, Try.ntmps76
  go_wp2_with fail
  exact HP.out _ (by unfold pfx; simp [h])
 ·have h1 : decide ((p.size : Int) ≤ (t.size : Int)) = false := decide_eq_false (by omega)
  have h2 : decide (p.size ≤ t.size) = false := decide_eq_false h
  go_enter Try.func76, Try.ntmps76
  go_wp2_with fail
  exact HP.out _ (by unfold pfx; simp [h])
theorem rd_has_any (t p : ByteArray) (w : World) (ht : t.size ≤ 1152921504606846976) : Calls Try.prog 75 #[.string t, .string p] w (BoolW (pfx t p) fun w' => w' = w) := by
 have HS := tuck (rd_slHas_any t p w ht)
 go_enter Try.func75, Try.ntmps75
 go_wp2_with fail
 refine HS.out.mono ?_
 rintro e w1 ⟨rfl, rfl⟩
 go_wp2_with fail
 go_ret
 exact ⟨rfl, rfl⟩
end Go.Proofs.Ytpddjebdncaceaa
