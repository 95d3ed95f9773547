/-
  LawT, Ints, Brg, ParseP.
-/
import Derived.Test.YtihlbbbajaepoaaP01
import Derived.Test.YtihlbbbajaepoaaP02
import Derived.Test.YtihlbbbajaepoaaP07
import Derived.Test.YtihlbbbajaepoaaP09
import Derived.Test.YtihlbbbajaepoaaP13
import Derived.Test.YtihlbbbajaepoaaP19
import Derived.ControlIn
import Derived.Laws.MakeOwn
import Derived.OrdersIn
import Derived.ProofKit
import Derived.RangeFuncCalls
import Derived.StillTailTactics
import Derived.Test.YtihlbbbajaepoaaProg
import Derived.WalkSpells
namespace Go.Proofs.Ytihlbbbajaepoaa
open Go.RowKit
end Go.Proofs.Ytihlbbbajaepoaa
namespace Go.Proofs.Ytihlbbbajaepoaa
open Go.RowKit
def BoxAt (g : Nat) (k n : Int) (s : Value) (w : World) : Prop := g < w.heap.size ∧ w.cell? ⟨g, 0, none⟩ = some (.int .i64 k) ∧ w.cell? ⟨g, 1, none⟩ = some (.int .i64 n) ∧ w.cell? ⟨g, 2, none⟩ = some s
theorem BoxAt.below {g : Nat} {k n : Int} {s : Value} {w w' : World} (h : BoxAt g k n s w) (hb : Below w.heap.size w w') : BoxAt g k n s w' :=
 ⟨Nat.lt_of_lt_of_le h.1 hb.size, (hb.cell (p := ⟨g, 0, none⟩) h.1).trans h.2.1, (hb.cell (p := ⟨g, 1, none⟩) h.1).trans h.2.2.1, (hb.cell (p := ⟨g, 2, none⟩) h.1).trans h.2.2.2⟩
end Go.Proofs.Ytihlbbbajaepoaa
namespace Go.Proofs.Ytihlbbbajaepoaa
open Go.RowKit
theorem sameAt_set {w : World} {p : Addr} {u : Value} {g : Nat} (h : g ≠ p.block) : SameAt w (w.setCell p u) g := SameAt.of_block (Below.heap_setCell w p u g h)
theorem SameAt.trans {a b c : World} {g : Nat} (h : SameAt a b g) (k : SameAt b c g) : SameAt a c g := fun i => ⟨(k i).1.trans (h i).1, (k i).2.trans (h i).2⟩
end Go.Proofs.Ytihlbbbajaepoaa
namespace Go.Proofs.Ytihlbbbajaepoaa
open Go.RowKit
end Go.Proofs.Ytihlbbbajaepoaa
namespace Go.Proofs.Ytihlbbbajaepoaa
open Go.RowKit
theorem BoxAt.set1 {g : Nat} {k n : Int} {s : Value} {w : World} {p : Addr} {u : Value} (h : BoxAt g k n s w) (hp : p.block ≠ g) : BoxAt g k n s (w.setCell p u) := by
 have hz : (w.setCell p u).heap.size = w.heap.size := by simp [World.setCell]
 exact ⟨by rw [hz]; exact h.1, (World.cell?_setCell_far w p _ u hp).trans h.2.1, (World.cell?_setCell_far w p _ u hp).trans h.2.2.1, (World.cell?_setCell_far w p _ u hp).trans h.2.2.2⟩
theorem VarAt.set3 {g : Nat} {k n k' n' : Int} {s s' : Value} {w : World} (h : VarAt g k n s w) : VarAt g k' n' s' (((w.setCell ⟨g, 0, none⟩ (.int .i64 k')).setCell ⟨g, 1, none⟩ (.int .i64 n')).setCell ⟨g, 2, none⟩ s') := by
 have h0 : VarAt g k' n s (w.setCell ⟨g, 0, none⟩ (.int .i64 k')) := by
  have := block_set h 0 (.int .i64 k')
  simpa [VarAt] using this
 have h1 : VarAt g k' n' s ((w.setCell ⟨g, 0, none⟩ (.int .i64 k')).setCell ⟨g, 1, none⟩ (.int .i64 n')) := by
  have := block_set h0 1 (.int .i64 n')
  simpa [VarAt] using this
 have := block_set h1 2 s'
 simpa [VarAt] using this
theorem VarAt.four {g : Nat} {k n : Int} {s : Value} {w : World} (h : VarAt g k n s w) : g < w.heap.size ∧ w.cell? ⟨g, 0, none⟩ = some (.int .i64 k) ∧ w.cell? ⟨g, 1, none⟩ = some (.int .i64 n) ∧ w.cell? ⟨g, 2, none⟩ = some s := ⟨h.facts.1, h.facts.2.1, h.facts.2.2.1, h.facts.2.2.2.1⟩
end Go.Proofs.Ytihlbbbajaepoaa
namespace Go.Proofs.Ytihlbbbajaepoaa
open Go.RowKit
def Ints (w : World) (B : Nat) (N : Int → Int) (len : Nat) (v : Value) : Prop :=
 ∃ a cap b o, v = .slice a len cap ∧ (0 < len → a = some ⟨b, o, none⟩ ∧ B ≤ b ∧ b < w.heap.size) ∧ ∀ i : Nat, i < len → w.cell? ⟨b, o + i, none⟩ = some (.int .i64 (N i))
theorem Ints.below {w w' : World} {B : Nat} {N : Int → Int} {len : Nat} {v : Value} (h : Ints w B N len v) (hb : Below w.heap.size w w') : Ints w' B N len v := by
 obtain ⟨a, cap, b, o, rfl, h1, h2⟩ := h
 exact ⟨a, cap, b, o, rfl, fun h => ⟨(h1 h).1, (h1 h).2.1, Nat.lt_of_lt_of_le (h1 h).2.2 hb.size⟩, fun i hi => (hb.cell (p := ⟨b, o + i, none⟩) (h1 (by omega)).2.2).trans (h2 i hi)⟩
theorem Ints.form {w : World} {B : Nat} {N : Int → Int} {len : Nat} {v : Value} (h : Ints w B N len v) : ∃ a cap, v = .slice a len cap := by
 obtain ⟨a, cap, _, _, h1, _⟩ := h
 exact ⟨a, cap, h1⟩
structure IntsOwn (w : World) (g : Nat) (N : Int → Int) (len : Nat) (v : Value) : Prop where
 form : v = .slice (some ⟨g, 0, none⟩) len len
 block : ∃ cs : Array Value, w.heap[g]? = some (.cells cs 3 (0, 0)) ∧ cs.size = len ∧ ∀ i : Nat, i < len → cs[i]? = some (.int .i64 (N i))
theorem IntsOwn.lt {w : World} {g : Nat} {N : Int → Int} {len : Nat} {v : Value} (h : IntsOwn w g N len v) : g < w.heap.size := by
 obtain ⟨cs, h1, _⟩ := h.block
 exact (block_of_cells h1).1
theorem IntsOwn.of_block {w w' : World} {g : Nat} {N : Int → Int} {len : Nat} {v : Value} (h : IntsOwn w g N len v) (hb : w'.heap[g]? = w.heap[g]?) : IntsOwn w' g N len v := by
 obtain ⟨cs, h1, h2⟩ := h.block
 exact ⟨h.form, cs, hb.trans h1, h2⟩
theorem IntsOwn.below {w w' : World} {g : Nat} {N : Int → Int} {len : Nat} {v : Value} (h : IntsOwn w g N len v) (hb : Below w.heap.size w w') : IntsOwn w' g N len v := h.of_block (hb.block g h.lt)
def ToInts (w : World) (N : Int → Int) (len : Nat) (e : Ending) (w' : World) : Prop := Below w.heap.size w w' ∧ ∃ v, e = .returned v ∧ IntsOwn w' w.heap.size N len v
theorem info_int : (Try.prog.info? 3).map (fun i => (i.zero, i.size, i.bytes)) = some (some (.int .i64 0), 1, 8) := by kernel_rfl
end Go.Proofs.Ytihlbbbajaepoaa
namespace Go.Proofs.Ytihlbbbajaepoaa
open Go
def noDefer (ops : Array Oper) : Bool := ops.all fun o => match o.op with | .defer _ => false | _ => true
theorem noDefer_spec {ops : Array Oper} (h : noDefer ops = true) {j : Nat} {o : Oper} (hj : ops[j]? = some o) : ∀ c, o.op ≠ .defer c := by
 intro c hc
 unfold noDefer at h
 rw [Array.all_eq_true'] at h
 have := h o (Array.mem_of_getElem? hj)
 rw [hc] at this
 cases this
section
variable {P : Program} {ops : Array Oper} {Q : Exit → Act → World → Prop} {md : Region.Mode} {l n : Nat}
theorem uponIn_of {o : Oper} {a : Act} {K : Act → World → Prop} {r : Result Next} (h : o.upon P a K Q r) : o.uponIn (Fence.wide.inRound l) n P a K Q r := by
 unfold Oper.upon at h
 unfold Oper.uponIn
 split at h
 ·exact h
 ·exact h
 ·exact h
 ·exact ⟨fun h => (by cases h), CallsIn.inRound l (callsIn_wide.2 h)⟩
 ·refine ⟨fun h => (by cases h), fun c cs _ => ?_⟩
  obtain ⟨v, w', h1, h2⟩ := h c cs
  exact ⟨v, w', h1, stepsIn_wide.2 h2⟩
 ·exact h
 ·exact h.elim
theorem wpOpIn_of (hnd : noDefer ops = true) (ho : ¬ LetsOut Q) {i : Nat} {K : Act → World → Prop} {a : Act} {w : World} (h : wpOp P ops Q i K a w) : wpOpIn (Fence.wide.inRound l) n P ops Q i K a w := by
 unfold wpOp at h
 unfold wpOpIn
 split
 ·rename_i hi
  simpa [hi] using h
 ·rename_i o hoi
  have ho' := ho
  simp only [hoi] at h
  split
  ·rename_i hw
   simp only [hw, if_true] at h
   refine ⟨fun _ _ => trivial, ?_⟩
   rw [Oper.semAt_eq _ _ _ (noDefer_spec hnd hoi)]
   rcases h with h | ⟨-, h⟩
   ·exact uponIn_of h
   ·exact absurd h ho'
  ·rename_i hw
   simp only [hw] at h
   exact ⟨fun _ _ => trivial, h⟩
theorem wpAnyIn_of (hnd : noDefer ops = true) (ho : ¬ LetsOut Q) : ∀ (fuel : Nat) (L : Array Bool) (a : Act) (w : World), wpAny P md ops Q fuel L a w → wpAnyIn (Fence.wide.inRound l) n P md ops Q fuel L a w
 | 0, _, _, _, h => h
 | fuel + 1, _, _, _, h => ⟨h.1, fun i hi => wpOpIn_mono (fun a' w' h' => wpAnyIn_of hnd ho fuel _ a' w' h') (wpOpIn_of hnd ho (h.2 i hi))⟩
theorem AnyTwo.beginIn {id : Nat} {a : Act} {w : World} (S1 S2 : World → Prop) (m : Nat) (hm : P.follows .mixedOrders = true) (hnd : noDefer ops = true) (ho : ¬ LetsOut Q)
  (h : AnyTwo P .any ops Q S1 S2 m ops.size (Array.replicate ops.size false) a w.drew) : (Code.region id ops true).wpIn (Fence.wide.inRound l) n P Q a w :=
 wpIn_region_any hm (wpAnyIn_of hnd ho _ _ _ _ (AnyTwo.any _ _ _ _ h))
theorem AnyTwo.beginN {id : Nat} {a : Act} {w : World} (S1 S2 : World → Prop) (m : Nat) (hm : P.follows .mixedOrders = true) (hnd : noDefer ops = true)
  (h : AnyTwo P .any ops (fun e a w => e = .normal ∧ Q .normal a w) S1 S2 m ops.size (Array.replicate ops.size false) a w.drew) : (Code.region id ops true).wpIn (Fence.wide.inRound l) n P Q a w :=
 wpIn_mono (AnyTwo.beginIn S1 S2 m hm hnd (fun ⟨_, _, h⟩ => nomatch h.1) h) (fun e a w h => by rw [h.1]; exact h.2)
end
end Go.Proofs.Ytihlbbbajaepoaa
namespace Go.Proofs.Ytihlbbbajaepoaa
def preKind (b : Nat) : Int := if b = 33 then 11 else if b = 94 then 15 else if b = 95 then 16 else 8
def roundKind (b : Nat) : Int := if b = 62 then 3 else if b = 42 then 13 else if b = 32 then 5 else 0
def blockKind (b : Nat) : Int := if b = 60 then 9 else if b = 123 then 10 else if b = 124 then 14 else if b = 64 then 12 else 0
def blockLast (b : Nat) : Nat := if b = 123 then 125 else if b = 124 then 124 else 62
def byteAt (s : ByteArray) (a : Nat) : Nat := if h : a < s.size then s[a].toNat else 0
theorem byteAt_eq {s : ByteArray} {a : Nat} (h : a < s.size) : byteAt s a = s[a].toNat := dif_pos h
def ptSer (s : ByteArray) (f : Nat → Option (Tm × Nat)) (last : Nat) : Nat → Nat → Option (List Tm × Nat)
 | 0, a => some ([], a)
 | m + 1, a => match f a with
  | none => none
  | some x => if x.2 < s.size ∧ byteAt s x.2 = (if m = 0 then last else 44) then (ptSer s f last m (x.2 + 1)).map fun y => (x.1 :: y.1, y.2) else none
def ptRound (s : ByteArray) (f : Nat → Option (Tm × Nat)) (a : Nat) : Option (Tm × Nat) :=
 match f a with
 | none => none
 | some x => if x.2 < s.size then (match f (x.2 + 1) with
  | none => none
  | some y => if roundKind (byteAt s x.2) ≠ 0 ∧ y.2 < s.size ∧ byteAt s y.2 = 41 then some (.mk (roundKind (byteAt s x.2)) 0 [x.1, y.1], y.2 + 1) else none) else none
def ptLam (s : ByteArray) (f : Nat → Option (Tm × Nat)) (a : Nat) : Option (Tm × Nat) :=
 match f a with
 | none => none
 | some x => if x.2 < s.size ∧ byteAt s x.2 = 93 then (f (x.2 + 1)).map fun y => (.mk 4 0 [x.1, y.1], y.2) else none
def ptBlock (s : ByteArray) (f : Nat → Option (Tm × Nat)) (a : Nat) : Option (Tm × Nat) :=
 if blockKind (byteAt s a) = 0 then none else
 if byteAt s a = 64 ∧ ¬ byteAt s (a + 1) = 60 then none else
 (ptSer s f (blockLast (byteAt s a)) (if blockKind (byteAt s a) = 9 then 4 else 3) (if byteAt s a = 64 then a + 2 else a + 1)).map fun y => (.mk (blockKind (byteAt s a)) 0 y.1, y.2)
def pt (s : ByteArray) : Nat → Nat → Option (Tm × Nat)
 | 0, _ => none
 | d + 1, a => if a < s.size then
   if byteAt s a = 35 then (ptNum s (a + 1) 2).map fun x => (.mk 1 x.1 [], x.2)
   else if byteAt s a = 42 then (ptNum s (a + 1) 1).map fun x => (.mk 2 x.1 [], x.2)
   else if byteAt s a = 78 then some (.mk 6 0 [], a + 1)
   else if byteAt s a = 48 then some (.mk 7 0 [], a + 1)
   else if byteAt s a = 43 ∨ byteAt s a = 33 ∨ byteAt s a = 94 ∨ byteAt s a = 95 then (pt s d (a + 1)).map fun x => (.mk (preKind (byteAt s a)) 0 [x.1], x.2)
   else if byteAt s a = 40 then ptRound s (pt s d) (a + 1)
   else if byteAt s a = 91 then ptLam s (pt s d) (a + 1)
   else ptBlock s (pt s d) a
  else none
theorem ptNum_le {s : ByteArray} {a d : Nat} {x : Nat × Nat} (ha : a ≤ s.size) (h : ptNum s a d = some x) : x.2 ≤ s.size := by
 unfold ptNum at h
 split at h
 ·simp only [Option.some.injEq] at h
  rw [← h]
  exact digRun_in s d a ha
 ·cases h
end Go.Proofs.Ytihlbbbajaepoaa
