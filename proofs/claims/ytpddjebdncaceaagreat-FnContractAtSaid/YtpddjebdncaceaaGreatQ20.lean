/-
  Clone, DrawA, View.
-/
import Derived.Test.YtpddjebdncaceaaGreatQ02
import Derived.Test.YtpddjebdncaceaaGreatQ06
import Derived.Test.YtpddjebdncaceaaGreatQ07
import Derived.Test.YtpddjebdncaceaaGreatQ13
import Derived.Test.YtpddjebdncaceaaGreatQ17
import Derived.Test.YtpddjebdncaceaaGreatQ18
import Derived.Test.YtpddjebdncaceaaGreatQ19
namespace Go.Proofs.YtpddjebdncaceaaGreat
open Go.RowKit
theorem SlIn.keep2 {w w' : World} {B : Nat} : ∀ {l : List Tm} {v : Value}, SlIn w B l v → (∀ (p : Addr) (u : Value), B ≤ p.block → w.cell? p = some u → w'.cell? p = some u) → SlIn w' B l v := by
 intro l
 induction l using Tm.ind with
 | h l ih =>
  rintro v ⟨a, cap, b, o, rfl, h1, h2, h3⟩ hk
  refine ⟨a, cap, b, o, rfl, h1, h2, RowAt.of_get fun i hi => ?_⟩
  have hB : B ≤ b := (h2 (by intro e; subst e; simp at hi)).2
  obtain ⟨s, c0, c1, c2, hs⟩ := TmAt_iff.1 (h3.get i hi)
  exact TmAt_iff.2 ⟨s, hk _ _ hB c0, hk _ _ hB c1, hk _ _ hB c2, ih i hi hs hk⟩
noncomputable def mask (w : World) (X : Nat → Prop) : World := { w with heap := w.heap.mapIdx fun i o => @ite _ (X i) (Classical.propDecidable _) (.cells #[] 0 (0, 0)) o }
theorem mask_size (w : World) (X : Nat → Prop) : (mask w X).heap.size = w.heap.size := by simp [mask]
theorem mask_cell {w : World} {X : Nat → Prop} {p : Addr} {u : Value} : (mask w X).cell? p = some u ↔ ¬ X p.block ∧ w.cell? p = some u := by
 have he : (mask w X).heap[p.block]? = (w.heap[p.block]?).map fun o => @ite _ (X p.block) (Classical.propDecidable _) (.cells #[] 0 (0, 0)) o := by simp [mask]
 unfold World.cell?
 rw [he]
 cases hw : w.heap[p.block]? with
 | none => simp
 | some o =>
  by_cases hx : X p.block
  ·simp [hx]
  ·simp [hx]
structure View (u : World) (M : Nat → Prop) (w : World) : Prop where
 rd : ∀ (p : Addr) (x : Value), u.cell? p = some x → w.cell? p = some x
 off : ∀ (p : Addr) (x : Value), u.cell? p = some x → ¬ M p.block
theorem View.step {u w w' : World} {M M' : Nat → Prop} (h : View u M w) (hs : Step M w w' M') : View u M' w' :=
 ⟨fun p x hc => (hs.cell (World.block_lt_of_cell? w p (h.rd p x hc)) (h.off p x hc)).trans (h.rd p x hc), fun p x hc hm => h.off p x hc (hs.grow _ (World.block_lt_of_cell? w p (h.rd p x hc)) hm)⟩
theorem View.below {u w w' : World} {M : Nat → Prop} (h : View u M w) (hb : Below w.heap.size w w') : View u M w' :=
 ⟨fun p x hc => (hb.cell (World.block_lt_of_cell? w p (h.rd p x hc))).trans (h.rd p x hc), h.off⟩
theorem View.set {u w : World} {M : Nat → Prop} (h : View u M w) {q : Addr} (hq : M q.block) (y : Value) : View u M (w.setCell q y) :=
 ⟨fun p x hc => (World.cell?_setCell_other w q p y (fun e => h.off p x hc (by subst e; exact hq))).trans (h.rd p x hc), h.off⟩
theorem View.of_below {u w : World} {M : Nat → Prop} (h : Below u.heap.size u w) (hM : ∀ i, M i → u.heap.size ≤ i) : View u M w :=
 ⟨fun p x hc => (h.cell (World.block_lt_of_cell? u p hc)).trans hc, fun p x hc hm => by have := World.block_lt_of_cell? u p hc; have := hM _ hm; omega⟩
theorem View.mask (w : World) (M : Nat → Prop) : View (mask w M) M w := ⟨fun _ _ h => (mask_cell.1 h).2, fun _ _ h => (mask_cell.1 h).1⟩
theorem View.sl {u w : World} {M : Nat → Prop} {l : List Tm} {v : Value} (h : View u M w) (hs : SlIn u 0 l v) : SlIn w 0 l v := hs.keep2 fun p x _ hc => h.rd p x hc
theorem View.self {w : World} {M : Nat → Prop} (hM : ∀ i, M i → w.heap.size ≤ i) : View w M w := View.of_below (Below.refl _ _) hM
def SlX (w : World) (X : Nat → Prop) (l : List Tm) (v : Value) : Prop := SlIn (Go.Proofs.YtpddjebdncaceaaGreat.mask w X) 0 l v
theorem SlX.sl {w : World} {X : Nat → Prop} {l : List Tm} {v : Value} (h : SlX w X l v) : SlIn w 0 l v := (View.mask w X).sl h
theorem SlX.of_view {u w : World} {X : Nat → Prop} {l : List Tm} {v : Value} (h : SlIn u 0 l v) (hv : View u X w) : SlX w X l v := h.keep2 fun p x _ hc => mask_cell.2 ⟨hv.off p x hc, hv.rd p x hc⟩
theorem SlX.to {w w' : World} {X X' : Nat → Prop} {l : List Tm} {v : Value} (h : SlX w X l v) (hk : ∀ (p : Addr) (u : Value), ¬ X p.block → w.cell? p = some u → ¬ X' p.block ∧ w'.cell? p = some u) : SlX w' X' l v :=
 h.keep2 fun p u _ hc => mask_cell.2 (hk p u (mask_cell.1 hc).1 (mask_cell.1 hc).2)
theorem SlX.of_sl {w : World} {X : Nat → Prop} {B : Nat} {l : List Tm} {v : Value} (h : SlIn w B l v) (hX : ∀ i, X i → i < B) : SlX w X l v :=
 SlIn.mono (h.keep2 fun p u hp hc => mask_cell.2 ⟨fun hx => by have := hX _ hx; omega, hc⟩) (Nat.zero_le _)
theorem SlX.below {w w' : World} {X : Nat → Prop} {l : List Tm} {v : Value} (h : SlX w X l v) (hb : Below w.heap.size w w') : SlX w' X l v :=
 SlX.of_view h ((View.mask w X).below hb)
theorem SlX.set {w : World} {X : Nat → Prop} {l : List Tm} {v : Value} (h : SlX w X l v) {q : Addr} (hq : X q.block) (y : Value) : SlX (w.setCell q y) X l v :=
 SlX.of_view h ((View.mask w X).set hq y)
theorem SlX.form {w : World} {X : Nat → Prop} {l : List Tm} {v : Value} (h : SlX w X l v) : ∃ a cap, v = .slice a l.length cap := SlIn.form h
theorem SlX.nil (w : World) (X : Nat → Prop) (a : Option Addr) (cap : Nat) : SlX w X [] (.slice a 0 cap) := SlIn.nil _ _ _ _
theorem SlX.open {w : World} {X : Nat → Prop} {l : List Tm} {v : Value} (h : SlX w X l v) : ∃ (a : Option Addr) (cap b o : Nat), v = .slice a l.length cap ∧ l.length ≤ maxLen ∧ (l ≠ [] → a = some ⟨b, o, none⟩ ∧ ¬ X b ∧ b < w.heap.size) ∧
  ∀ i (hi : i < l.length), ∃ s, w.cell? ⟨b, o + i * 3, none⟩ = some (I6 l[i].kind) ∧ w.cell? ⟨b, o + i * 3 + 1, none⟩ = some (I6 l[i].num) ∧ w.cell? ⟨b, o + i * 3 + 2, none⟩ = some s ∧ SlX w X l[i].kids s := by
 obtain ⟨a, cap, b, o, rfl, h1, h2, h3⟩ := SlIn.open h
 refine ⟨a, cap, b, o, rfl, h1, fun hn => ⟨(h2 hn).1, ?_, by have := (h2 hn).2.2; rwa [mask_size] at this⟩, fun i hi => ?_⟩
 ·obtain ⟨s, c0, _⟩ := h3 0 (List.length_pos_iff.2 hn)
  exact (mask_cell.1 c0).1
 ·obtain ⟨s, c0, c1, c2, hs⟩ := h3 i hi
  exact ⟨s, (mask_cell.1 c0).2, (mask_cell.1 c1).2, (mask_cell.1 c2).2, hs⟩
theorem SlX.mk {w : World} {X : Nat → Prop} {l : List Tm} {b o cap : Nat} (hl : l.length ≤ maxLen) (hb : ¬ X b) (h : ∀ i (hi : i < l.length), ∃ s, w.cell? ⟨b, o + i * 3, none⟩ = some (I6 l[i].kind) ∧ w.cell? ⟨b, o + i * 3 + 1, none⟩ = some (I6 l[i].num) ∧ w.cell? ⟨b, o + i * 3 + 2, none⟩ = some s ∧ SlX w X l[i].kids s) :
  SlX w X l (.slice (some ⟨b, o, none⟩) l.length cap) :=
 ⟨_, cap, b, o, rfl, hl, fun _ => ⟨rfl, Nat.zero_le _⟩, RowAt.of_get fun i hi => by
  obtain ⟨s, c0, c1, c2, hs⟩ := h i hi
  exact TmAt_iff.2 ⟨s, mask_cell.2 ⟨hb, c0⟩, mask_cell.2 ⟨hb, c1⟩, mask_cell.2 ⟨hb, c2⟩, hs⟩⟩
end Go.Proofs.YtpddjebdncaceaaGreat
namespace Go.Proofs.YtpddjebdncaceaaGreat
open Go.RowKit
set_option maxRecDepth 100000 in
theorem cloneI_any : ∀ (l : List Tm) (k n : Int) (w : World) (v : Value), sizes l ≤ 1000000 → SlIn w 0 l v →
  Calls Tryz.prog 45 #[.agg #[I6 k, I6 n, v]] w (MadePost w (Tm.mk k n l)) := by
 intro l
 induction l using Tm.ind with
 | h l ih =>
 intro k n w v hsz hin
 obtain ⟨a, cap, bb, o, rfl, hl, hp, hc⟩ := hin.open
 clear hin
 have HPOST : Hid (∀ w' s F, Below w.heap.size w w' → SlOwn w' l s F → F.Nodup → (∀ g ∈ F, w.heap.size ≤ g ∧ g < w'.heap.size) → MadePost w (Tm.mk k n l) (.returned (.agg #[I6 k, I6 n, s])) w') := fun w' s F a1 a2 a3 a4 =>
  ⟨a1, _, rfl, s, F, rfl, a2, a3, a4⟩
 generalize MadePost w (Tm.mk k n l) = post at *
 have hll := length_le_sizes l
 have hl4 : l.length ≤ 1000000 := by omega
 have HI := tuck ih
 have HP := tuck hp
 have HC := tuck hc
 have HSZ := tuck hsz
 clear ih hp hc hsz hll
 by_cases hl0 : l.length = 0
 ·have hl' : l = [] := List.length_eq_zero_iff.1 hl0
  subst hl'
  go_enter Tryz.func45, Tryz.ntmps45
  go_wp2_with fail
  refine bodyPost_ret (v := .agg #[I6 k, I6 n, .slice none 0 0]) (by simp [results, Tryz.results45, go_sem]) rfl (HPOST.out _ _ [] ?_ (SlOwn.nil _ _ _) List.nodup_nil (fun g h => by cases h))
  exact below3 _ _ _ _
 have hpos : 0 < l.length := by omega
 have hposi : (0 : Int) < (l.length : Int) := by omega
 obtain ⟨i0, hi, hz0, hz1', hz2⟩ := info_parts info_term'
 have hmk : ∀ W : World, (Instr.makeSlice 32 (I6 (l.length : Int)) (I6 (l.length : Int))).run Tryz.prog W = .ok (.slice (some ⟨W.heap.size, 0, none⟩) l.length l.length) (W.alloc (.cells (madeCells #[I6 0, I6 0, .slice none 0 0] (l.length * 3)) 34)) := fun W => by
  have h := run_make (P := Tryz.prog) W 32 34 i0 _ Tryz.underlying32 hi hz0 .i64 .i64 (l.length : Int) (l.length : Int) (by omega) (Int.le_refl _) (by rw [hz2]; omega) (by omega)
  rw [hz1'] at h
  simpa [Value.cells] using h
 clear hi hz0 hz1' hz2
 have HB2 := tuck ((below3 w (.cells #[I6 k, I6 n, .slice a l.length cap] 34) (.cells #[I6 0, I6 0, .slice none 0 0] 34) (.cells #[I6 k, I6 n, (.slice (some ⟨w.heap.size + 1 + 1 + 1, 0, none⟩) l.length l.length)] 34)).alloc (by simp; omega) (.cells (madeCells #[I6 0, I6 0, .slice none 0 0] (l.length * 3)) 34))
 have HT2 := tuck ((((VarAt.new w k n (.slice a l.length cap)).below (below1 _ (.cells #[I6 0, I6 0, .slice none 0 0] 34))).below (below1 _ (.cells #[I6 k, I6 n, (.slice (some ⟨w.heap.size + 1 + 1 + 1, 0, none⟩) l.length l.length)] 34))).below (below1 _ (.cells (madeCells #[I6 0, I6 0, .slice none 0 0] (l.length * 3)) 34)))
 have HC2 : Hid (VarAt (w.heap.size + 1 + 1) k n (.slice (some ⟨w.heap.size + 1 + 1 + 1, 0, none⟩) l.length l.length) ((((w.alloc (.cells #[I6 k, I6 n, .slice a l.length cap] 34)).alloc (.cells #[I6 0, I6 0, .slice none 0 0] 34)).alloc (.cells #[I6 k, I6 n, (.slice (some ⟨w.heap.size + 1 + 1 + 1, 0, none⟩) l.length l.length)] 34)).alloc (.cells (madeCells #[I6 0, I6 0, .slice none 0 0] (l.length * 3)) 34))) := tuck (by
  have := (var_new2 w (.cells #[I6 k, I6 n, .slice a l.length cap] 34) (.cells #[I6 0, I6 0, .slice none 0 0] 34) k n (.slice (some ⟨w.heap.size + 1 + 1 + 1, 0, none⟩) l.length l.length)).below (below1 _ (.cells (madeCells #[I6 0, I6 0, .slice none 0 0] (l.length * 3)) 34))
  exact this)
 have HZ2 : Hid (VarAt (w.heap.size + 1) 0 0 (.slice none 0 0) ((((w.alloc (.cells #[I6 k, I6 n, .slice a l.length cap] 34)).alloc (.cells #[I6 0, I6 0, .slice none 0 0] 34)).alloc (.cells #[I6 k, I6 n, (.slice (some ⟨w.heap.size + 1 + 1 + 1, 0, none⟩) l.length l.length)] 34)).alloc (.cells (madeCells #[I6 0, I6 0, .slice none 0 0] (l.length * 3)) 34))) := tuck (by
  have := ((var_new1 w (.cells #[I6 k, I6 n, .slice a l.length cap] 34) 0 0 (.slice none 0 0)).below (below1 _ (.cells #[I6 k, I6 n, (.slice (some ⟨w.heap.size + 1 + 1 + 1, 0, none⟩) l.length l.length)] 34))).below (below1 _ (.cells (madeCells #[I6 0, I6 0, .slice none 0 0] (l.length * 3)) 34))
  exact this)
 have HR2 : Hid (((((w.alloc (.cells #[I6 k, I6 n, .slice a l.length cap] 34)).alloc (.cells #[I6 0, I6 0, .slice none 0 0] 34)).alloc (.cells #[I6 k, I6 n, (.slice (some ⟨w.heap.size + 1 + 1 + 1, 0, none⟩) l.length l.length)] 34)).alloc (.cells (madeCells #[I6 0, I6 0, .slice none 0 0] (l.length * 3)) 34)).heap[w.heap.size + 1 + 1 + 1]? = some (.cells (madeCells #[I6 0, I6 0, .slice none 0 0] (l.length * 3)) 34)) := tuck (by
  have := heap_new (((w.alloc (.cells #[I6 k, I6 n, .slice a l.length cap] 34)).alloc (.cells #[I6 0, I6 0, .slice none 0 0] 34)).alloc (.cells #[I6 k, I6 n, (.slice (some ⟨w.heap.size + 1 + 1 + 1, 0, none⟩) l.length l.length)] 34)) (.cells (madeCells #[I6 0, I6 0, .slice none 0 0] (l.length * 3)) 34)
  rwa [show (((w.alloc (.cells #[I6 k, I6 n, .slice a l.length cap] 34)).alloc (.cells #[I6 0, I6 0, .slice none 0 0] 34)).alloc (.cells #[I6 k, I6 n, (.slice (some ⟨w.heap.size + 1 + 1 + 1, 0, none⟩) l.length l.length)] 34)).heap.size = w.heap.size + 1 + 1 + 1 by simp] at this)
 go_enter Tryz.func45, Tryz.ntmps45
 go_wp2_with fail
 generalize ((((w.alloc (.cells #[I6 k, I6 n, .slice a l.length cap] 34)).alloc (.cells #[I6 0, I6 0, .slice none 0 0] 34)).alloc (.cells #[I6 k, I6 n, (.slice (some ⟨w.heap.size + 1 + 1 + 1, 0, none⟩) l.length l.length)] 34)).alloc (.cells (madeCells #[I6 0, I6 0, .slice none 0 0] (l.length * 3)) 34)) = W2 at *
 clear hmk
 go_loopw [23] (fun i wr => ∃ (q : Nat) (F : List Nat), q ≤ l.length ∧ i = I6 q ∧ Below w.heap.size w wr ∧ VarAt (w.heap.size + 1) 0 0 (.slice none 0 0) wr ∧ VarAt (w.heap.size + 1 + 1) k n (.slice (some ⟨w.heap.size + 1 + 1 + 1, 0, none⟩) l.length l.length) wr ∧
   (∃ cs : Array Value, wr.heap[w.heap.size + 1 + 1 + 1]? = some (.cells cs 34 (0, 0)) ∧ cs.size = l.length * 3) ∧ RowOwn wr (l.take q) (w.heap.size + 1 + 1 + 1) 0 F ∧ F.Nodup ∧ ∀ x ∈ F, w.heap.size + 1 + 1 + 1 < x ∧ x < wr.heap.size) (fun i _ => l.length - (intOf i).toNat)
 case atStart => exact ⟨0, [], Nat.zero_le _, rfl, HB2.out, HZ2.out, HC2.out, ⟨_, HR2.out, size_madeCells _ _⟩, by rw [List.take_zero, RowOwn], List.nodup_nil, fun x h => by cases h⟩
 case round =>
  obtain ⟨q, F, hq, rfl, hb, hyz, hy4, ⟨cs, hcs, hcz⟩, hro, hnd, hF⟩ := hrel
  have HB := tuck hb
  have HYZ := tuck hyz
  have HY4 := tuck hy4
  have HCS := tuck hcs
  have HRO := tuck hro
  have HND := tuck hnd
  have HF := tuck hF
  clear hb hyz hy4 hcs hro hnd hF
  obtain ⟨z4, a0, a1, a2, af⟩ := HY4.out.facts
  by_cases hlt : q < l.length
  ·have hlti : ((q : Int) < (l.length : Int)) := by omega
   have hqi : (0 : Int) ≤ (q : Int) := by omega
   have hzr4 := (block_of_cells HCS.out).1
   have HTAKE1 : Hid (l.take (q + 1) = l.take q ++ [l[q]]) := List.take_succ_eq_append_getElem hlt
   obtain ⟨rfl, _, hbw⟩ := HP.out (by intro e; rw [e] at hlt; simp at hlt)
   obtain ⟨s, c0, c1, c2, hs⟩ := HC.out q hlt
   obtain ⟨sa, sc, rfl⟩ := hs.form
   replace c0 := (HB.out.cell (p := ⟨bb, o + q * 3, none⟩) hbw).trans c0
   replace c1 := (HB.out.cell (p := ⟨bb, o + q * 3 + 1, none⟩) hbw).trans c1
   replace c2 := (HB.out.cell (p := ⟨bb, o + q * 3 + 2, none⟩) hbw).trans c2
   have HS := tuck hs
   have HCALL : Hid (∀ w1, Below w.heap.size w w1 → Calls Tryz.prog 45 #[.agg #[I6 l[q].kind, I6 l[q].num, .slice sa l[q].kids.length sc]] w1 (MadePost w1 l[q])) := fun w1 h1 => by
    have := HI.out q hlt l[q].kind l[q].num w1 _ (by have := kids_get_lt l q hlt; have := HSZ.out; omega) (HS.out.below h1)
    rwa [Tm.eta] at this
   clear hs HI
   generalize l[q] = x at *
   go_wp2_with fail
   have hbk := below1 wr (.cells #[I6 x.kind, I6 x.num, .slice sa x.kids.length sc] 34)
   have hz4k : wr.heap.size < (wr.alloc (.cells #[I6 x.kind, I6 x.num, .slice sa x.kids.length sc] 34)).heap.size := by simp
   have k0 := VarAt.new wr x.kind x.num (.slice sa x.kids.length sc)
   have HS0 : Hid ((w.heap.size + 1 + 1 < (wr.alloc (.cells #[I6 x.kind, I6 x.num, .slice sa x.kids.length sc] 34)).drew.heap.size ∧ (wr.alloc (.cells #[I6 x.kind, I6 x.num, .slice sa x.kids.length sc] 34)).drew.cell? ⟨w.heap.size + 1 + 1, 2, none⟩ = some (.slice (some ⟨w.heap.size + 1 + 1 + 1, 0, none⟩) l.length l.length)) ∧ (wr.alloc (.cells #[I6 x.kind, I6 x.num, .slice sa x.kids.length sc] 34)).drew.cell? ⟨wr.heap.size, 0, none⟩ = some (I6 x.kind) ∧ (wr.alloc (.cells #[I6 x.kind, I6 x.num, .slice sa x.kids.length sc] 34)).drew.cell? ⟨wr.heap.size, 1, none⟩ = some (I6 x.num) ∧ (wr.alloc (.cells #[I6 x.kind, I6 x.num, .slice sa x.kids.length sc] 34)).drew.cell? ⟨wr.heap.size, 2, none⟩ = some (.slice sa x.kids.length sc)) := tuck
    ⟨⟨Nat.lt_of_lt_of_le z4 hbk.size, (hbk.cell (p := ⟨w.heap.size + 1 + 1, 2, none⟩) z4).trans a2⟩, k0.facts.2.1, k0.facts.2.2.1, k0.facts.2.2.2.1⟩
   have HKV := tuck k0
   have hkne : wr.heap.size ≠ w.heap.size + 1 + 1 + 1 := by omega
   have HBK := tuck (bAfter HB.out hbk)
   have HYK := tuck (HY4.out.below hbk)
   have HYZK := tuck (HYZ.out.below hbk)
   have HCSK := tuck ((hbk.block _ hzr4).trans HCS.out)
   have HROK := tuck (HRO.out.keep (fun i _ => hbk.cell (p := ⟨w.heap.size + 1 + 1 + 1, 0 + i, none⟩) hzr4) (fun y hy => SameAt.of_block (hbk.block y (HF.out y hy).2)))
   have HFK : Hid (∀ y ∈ F, w.heap.size + 1 + 1 + 1 < y ∧ y < (wr.alloc (.cells #[I6 x.kind, I6 x.num, .slice sa x.kids.length sc] 34)).heap.size) := tuck fun y hy => ⟨(HF.out y hy).1, Nat.lt_of_lt_of_le (HF.out y hy).2 hbk.size⟩
   have hzrk : w.heap.size + 1 + 1 + 1 < (wr.alloc (.cells #[I6 x.kind, I6 x.num, .slice sa x.kids.length sc] 34)).heap.size := Nat.lt_of_lt_of_le hzr4 hbk.size
   clear hbk k0 a0 a1 a2 c0 c1 c2 HB HYZ HY4 HCS HRO HF hzr4
   generalize wr.alloc (.cells #[I6 x.kind, I6 x.num, .slice sa x.kids.length sc] 34) = WK at *
   generalize wr.heap.size = gk at *
   go_region_held3 (fun w' => (w.heap.size + 1 + 1 < w'.heap.size ∧ w'.cell? ⟨w.heap.size + 1 + 1, 2, none⟩ = some (.slice (some ⟨w.heap.size + 1 + 1 + 1, 0, none⟩) l.length l.length)) ∧ w'.cell? ⟨gk, 0, none⟩ = some (I6 x.kind) ∧ w'.cell? ⟨gk, 1, none⟩ = some (I6 x.num) ∧ w'.cell? ⟨gk, 2, none⟩ = some (.slice sa x.kids.length sc)) (first | exact HS0.out | exact ⟨⟨HV3.out.facts.1, HV3.out.facts.2.2.2.1⟩, HK3.out.facts.2.1, HK3.out.facts.2.2.1, HK3.out.facts.2.2.2.1⟩ | exact ⟨⟨HV4.out.facts.1, HV4.out.facts.2.2.2.1⟩, HK4.out.facts.2.1, HK4.out.facts.2.2.1, HK4.out.facts.2.2.2.1⟩) ((go_at_call 45; refine (HCALL.out _ (bAfter HBK.out (Below.refl _ _).drew)).mono ?_; rintro e w3 ⟨hb3, tv, rfl, sv, F2, rfl, hs2, hnd2, hF2⟩; obtain ⟨sva, svc, rfl⟩ := hs2.form; have HV3 := tuck ((HYK.out.below (Below.refl _ _).drew).below hb3); have HV4 := tuck (HV3.out.far3 (Nat.ne_of_lt (Nat.lt_succ_self _)) (q * 3) (q * 3 + 1) (q * 3 + 2) (I6 x.kind) (I6 x.num) (.slice sva x.kids.length svc)); have HC3 := tuck ((hb3.block (w.heap.size + 1 + 1 + 1) hzrk).trans HCSK.out); have c30 := ((block_of_cells HC3.out).2.1 (q * 3)).trans (Array.getElem?_eq_getElem (by omega)); have c31 := ((block_of_cells HC3.out).2.1 (q * 3 + 1)).trans (Array.getElem?_eq_getElem (by omega)); have c32 := ((block_of_cells HC3.out).2.1 (q * 3 + 2)).trans (Array.getElem?_eq_getElem (by omega)); have c3f := (block_of_cells HC3.out).2.2; have HK3 := tuck ((HKV.out.below (Below.refl _ _).drew).below hb3); have HK4 := tuck (HK3.out.far3 hkne (q * 3) (q * 3 + 1) (q * 3 + 2) (I6 x.kind) (I6 x.num) (.slice sva x.kids.length svc))))
   have HIN := tuck hs2
   have HN2 := tuck hnd2
   have HF2 := tuck hF2
   have HB' := tuck hb3
   clear hs2 hnd2 hF2 hb3 c30 c31 c32 c3f
   go_wp2_with fail
   go_roundw
   case rel =>
    have hd : WK.drew.heap.size = WK.heap.size := rfl
    have hRF : w.heap.size + 1 + 1 + 1 ∉ F := fun h => by have := (HFK.out _ h).1; omega
    have hRF2 : w.heap.size + 1 + 1 + 1 ∉ F2 := fun h => by have := (HF2.out _ h).1; omega
    have hro3 : RowOwn w3 (l.take q) (w.heap.size + 1 + 1 + 1) 0 F := HROK.out.keep (fun i _ => HB'.out.cell (p := ⟨w.heap.size + 1 + 1 + 1, 0 + i, none⟩) hzrk) (fun y hy => SameAt.of_block (HB'.out.block y (HFK.out y hy).2))
    obtain ⟨hp1, hp2⟩ := row_put HC3.out hlt hcz hro3 HIN.out hRF hRF2
    have hb5 := bAfter HBK.out (bAfter (Below.refl _ _).drew HB'.out)
    refine ⟨q + 1, F ++ F2, by omega, by go_num, bSet3 hb5 (by omega) _ _ _ _ _ _, ?_, HV4.out, hp1, by rw [HTAKE1.out]; exact hp2, ?_, fun y hy => ?_⟩
    ·exact (((HYZK.out.below (Below.refl _ _).drew).below HB'.out).far3 (by omega) _ _ _ _ _ _)
    ·refine List.nodup_append.2 ⟨HND.out, HN2.out, fun a ha b hb e => ?_⟩
     have := (HFK.out a ha).2
     have := (HF2.out b hb).1
     omega
    ·rw [size_set3]
     have hz := HB'.out.size
     rcases List.mem_append.1 hy with hy | hy
     ·have := HFK.out y hy
      omega
     ·have := HF2.out y hy
      omega
   case measure => simp [intOf]; omega
  ·have hge2 : ¬ ((q : Int) < (l.length : Int)) := by omega
   have e : q = l.length := by omega
   subst e
   obtain ⟨zv, v0, v1, v2, vf⟩ := HYZ.out.facts
   go_wp2_with fail
   refine bodyPost_ret (v := .agg #[I6 k, I6 n, (.slice (some ⟨w.heap.size + 1 + 1 + 1, 0, none⟩) l.length l.length)]) (by simp [results, Tryz.results45, go_sem, *]) rfl (HPOST.out _ _ ((w.heap.size + 1 + 1 + 1) :: F) ?_ ?_ (List.nodup_cons.2 ⟨fun h => by have := (HF.out _ h).1; omega, HND.out⟩) fun y hy => ?_)
   ·exact bSet3 HB.out (by omega) _ _ _ _ _ _
   ·have hso : SlOwn wr l (.slice (some ⟨w.heap.size + 1 + 1 + 1, 0, none⟩) l.length l.length) ((w.heap.size + 1 + 1 + 1) :: F) := by
     have hro := HRO.out
     rw [List.take_length] at hro
     exact ⟨some ⟨w.heap.size + 1 + 1 + 1, 0, none⟩, l.length, w.heap.size + 1 + 1 + 1, F, rfl, by unfold maxLen; omega, Or.inr ⟨rfl, rfl, (block_of_cells HCS.out).2.2⟩, fun _ => hro⟩
    refine hso.set3 (fun h => ?_) _ _ _ _ _ _
    rcases List.mem_cons.1 h with h | h
    ·omega
    ·have := (HF.out _ h).1; omega
   ·rw [size_set3]
    have := (block_of_cells HCS.out).1
    rcases List.mem_cons.1 hy with rfl | hy
    ·omega
    ·have := HF.out y hy
     omega
end Go.Proofs.YtpddjebdncaceaaGreat
namespace Go.Proofs.YtpddjebdncaceaaGreat
open Go.RowKit
theorem leafS_any (k n : Int) (w : World) : Calls Tryz.prog 109 #[I6 k, I6 n] w fun e w' => e = .returned (.agg #[I6 k, I6 n, .slice none 0 0]) ∧ Below w.heap.size w w' := by
 go_enter Tryz.func109, Tryz.ntmps109
 go_wp2
 refine bodyPost_ret (v := .agg #[I6 k, I6 n, .slice none 0 0]) (by simp [results, Tryz.results109, go_sem]) rfl ⟨rfl, below1 _ _⟩
def AnyPost (g : Nat) (a : Option Addr) (len cap p : Nat) (w : World) (e : Ending) (w' : World) : Prop :=
 ∃ (t : Tm) (s : Value) (F : List Nat) (p' : Nat), e = .returned (.agg #[I6 t.kind, I6 t.num, s]) ∧ SlOwn w' t.kids s F ∧ F.Nodup ∧ (∀ x ∈ F, w.heap.size ≤ x ∧ x < w'.heap.size) ∧ t.Valid ∧ p' ≤ p + 1876 ∧ Rd g a len cap p' w' ∧ Only g w w'
set_option maxRecDepth 100000 in
set_option maxHeartbeats 1600000 in
theorem lany_any {U : Nat → Int} {g b o len cap p : Nat} {a : Option Addr} (w : World) (hlen : len ≤ 2000) (hbg : 0 < len → b ≠ g) (hp : p ≤ 90000) (hrd : Rd g a len cap p w) (hby : Bytes U a b o len w) :
  Calls Tryz.prog 113 #[.pointer (some ⟨g, 0, none⟩)] w (AnyPost g a len cap p w) := by
 have hg := hrd.facts.1
 have HRD := tuck hrd
 have HBY := tuck hby
 have HPOST : Hid (∀ (t : Tm) (w' : World) (s : Value) (F : List Nat) (p' : Nat), SlOwn w' t.kids s F → F.Nodup → (∀ x ∈ F, w.heap.size ≤ x ∧ x < w'.heap.size) → t.Valid → p' ≤ p + 1876 → Rd g a len cap p' w' → Only g w w' → AnyPost g a len cap p w (.returned (.agg #[I6 t.kind, I6 t.num, s])) w') := fun t w' s F p' h1 h2 h3 h4 h5 h6 h7 => ⟨t, s, F, p', rfl, h1, h2, h3, h4, h5, h6, h7⟩
 generalize AnyPost g a len cap p w = post at *
 have HL1 : Hid (DInts (fun i => ([3, 4, 2, 3, 1] : List Int).getD i 0) (w.heap.size + 1) 0 5 ((w.alloc (.cells #[I6 0, I6 0, .slice none 0 0] 34)).alloc (.cells #[I6 3, I6 4, I6 2, I6 3, I6 1] 3))) := by
  have := ints_new [3, 4, 2, 3, 1] (w.alloc (.cells #[I6 0, I6 0, .slice none 0 0] 34)) 3
  rwa [show (w.alloc (.cells #[I6 0, I6 0, .slice none 0 0] 34)).heap.size = w.heap.size + 1 by simp] at this
 have HO0 : Hid (Only g w ((w.alloc (.cells #[I6 0, I6 0, .slice none 0 0] 34)).alloc (.cells #[I6 3, I6 4, I6 2, I6 3, I6 1] 3))) := ((Only.refl g w).alloc _).alloc _
 have HV0 : Hid (VarAt w.heap.size 0 0 (.slice none 0 0) ((w.alloc (.cells #[I6 0, I6 0, .slice none 0 0] 34)).alloc (.cells #[I6 3, I6 4, I6 2, I6 3, I6 1] 3))) := (VarAt.new w 0 0 (.slice none 0 0)).below (below1 _ _)
 clear hrd hby
 go_enter Tryz.func113, Tryz.ntmps113
 go_wp2_with fail
 refine (num_any (N := fun i => ([3, 4, 2, 3, 1] : List Int).getD i 0) (o2 := 0) (n := 5) _ hlen (by omega) (by omega) (by omega) (HRD.out.below (below2 _ _ _)) (HBY.out.below (below2 _ _ _)) hbg HL1.out (by omega)).mono ?_
 rintro e w1 ⟨i1, hi1, he, hrd, ho⟩
 obtain ⟨d, hd⟩ : ∃ d : Int, d = ([3, 4, 2, 3, 1] : List Int).getD i1 0 := ⟨_, rfl⟩
 obtain rfl : e = .returned (I6 d) := by rw [hd]; exact he
 clear he
 have hk := (by decide : ∀ i < 5, 1 ≤ ([3, 4, 2, 3, 1] : List Int).getD i 0 ∧ ([3, 4, 2, 3, 1] : List Int).getD i 0 ≤ 4) i1 hi1
 rw [← hd] at hk
 clear hd
 obtain ⟨hk0, hk1⟩ := hk
 have HY0 := tuck (HV0.out.only ho (by omega))
 have hzr : w.heap.size < w1.heap.size := HY0.out.facts.1
 have HO := tuck (HO0.out.trans ho)
 have HD := tuck (ldraw_any hlen hbg 4 (by omega) d (p + 1) w1 (by omega) (by omega) (by omega) hrd ((HBY.out.below (below2 w _ _)).only ho hbg))
 clear hrd ho HO0 HV0 HL1
 go_wp2_with fail
 refine HD.out.mono ?_
 rintro e w2 ⟨T, ts, G, p2, rfl, hso, hnd, hF, hsz, hp2, hrd, ho⟩
 obtain ⟨ta, tc, rfl⟩ := hso.form
 replace HY0 := tuck (HY0.out.only ho (by omega))
 have hz1 : w.heap.size ≤ w1.heap.size := HO.out.size
 have HGB : Hid (∀ x ∈ G, w1.heap.size ≤ x ∧ x < w2.heap.size) := tuck hF
 have hz2 : w1.heap.size ≤ w2.heap.size := ho.size
 replace HO := tuck (HO.out.trans ho)
 have HR := tuck hrd
 have HP2 : Hid (p2 ≤ p + 1 + 3 * 625) := tuck hp2
 have HSO := tuck hso
 have HND := tuck hnd
 clear hso hnd hF hsz hp2 hrd ho HD
 go_wp2_with fail
 have HV : Hid (∀ W : World, Below w2.heap.size w2 W → Calls Tryz.prog 32 #[.agg #[I6 T.kind, I6 T.num, .slice ta T.kids.length tc]] W (BoolPost W (tr T.Valid))) := fun W h => validS_any T W _ ⟨_, rfl, (HSO.out.sl (B := 0) (fun _ _ => Nat.zero_le _)).below h⟩
 by_cases hT : T.Valid
 ·have HTV := tuck hT
  rw [tr_of hT] at HV
  clear hT
  have HPE := tuck (HPOST.out T)
  refine (HV.out _ (below1 _ _)).mono ?_
  rintro e w3 ⟨rfl, hb⟩
  have hbb := bAfter (below1 w2 (.cells #[I6 T.kind, I6 T.num, .slice ta T.kids.length tc] 34)) hb
  have hvt := (VarAt.new w2 T.kind T.num (.slice ta T.kids.length tc)).below hb
  obtain ⟨zt, t0, t1, t2, -⟩ := hvt.facts
  have HY3 := tuck (HY0.out.below hbb)
  obtain ⟨zv, v0, v1, v2, vf⟩ := HY3.out.facts
  have HO3 := tuck (HO.out.of_below hbb)
  have HR3 := tuck (HR.out.below hbb)
  have HSO3 := tuck (HSO.out.below (fun x hx => (HGB.out x hx).2) hbb)
  have hz3 : w2.heap.size ≤ w3.heap.size := hbb.size
  clear hb hbb hvt
  go_wp2_with fail
  refine bodyPost_ret (v := .agg #[I6 T.kind, I6 T.num, .slice ta T.kids.length tc]) (by simp [results, Tryz.results113, go_sem, *]) rfl (HPE.out _ _ G p2 ?_ HND.out (fun x hx => ?_) HTV.out ?_ ?_ ?_)
  ·exact HSO3.out.set3 (fun h => by have := (HGB.out _ h).1; omega) _ _ _ _ _ _
  ·rw [size_set3]
   have := HGB.out x hx
   omega
  ·have := HP2.out
   omega
  ·exact ((HR3.out.far (show w.heap.size ≠ g by omega)).far (show w.heap.size ≠ g by omega)).far (show w.heap.size ≠ g by omega)
  ·exact ((HO3.out.setCell (Or.inr (Nat.le_refl _)) _).setCell (Or.inr (Nat.le_refl _)) _).setCell (Or.inr (Nat.le_refl _)) _
 ·rw [tr_not hT] at HV
  clear hT
  have HPE := tuck (HPOST.out (numT 0))
  refine (HV.out _ (below1 _ _)).mono ?_
  rintro e w3 ⟨rfl, hb⟩
  have hbb := bAfter (below1 w2 (.cells #[I6 T.kind, I6 T.num, .slice ta T.kids.length tc] 34)) hb
  have HY3 := tuck (HY0.out.below hbb)
  have HO3 := tuck (HO.out.of_below hbb)
  have HR3 := tuck (HR.out.below hbb)
  clear hb hbb
  go_wp2_with fail
  refine (leafS_any 7 0 _).mono ?_
  rintro e w4 ⟨rfl, hb⟩
  replace HY3 := tuck (HY3.out.below hb)
  replace HO3 := tuck (HO3.out.of_below hb)
  replace HR3 := tuck (HR3.out.below hb)
  obtain ⟨zv, v0, v1, v2, vf⟩ := HY3.out.facts
  clear hb
  go_wp2_with fail
  refine bodyPost_ret (v := .agg #[I6 7, I6 0, .slice none 0 0]) (by simp [results, Tryz.results113, go_sem, *]) rfl (HPE.out _ _ [] p2 ?_ List.nodup_nil (fun x hx => by cases hx) (valid_numT (by omega)) ?_ ?_ ?_)
  ·exact SlOwn.nil _ _ _
  ·have := HP2.out
   omega
  ·exact ((HR3.out.far (show w.heap.size ≠ g by omega)).far (show w.heap.size ≠ g by omega)).far (show w.heap.size ≠ g by omega)
  ·exact ((HO3.out.setCell (Or.inr (Nat.le_refl _)) _).setCell (Or.inr (Nat.le_refl _)) _).setCell (Or.inr (Nat.le_refl _)) _
end Go.Proofs.YtpddjebdncaceaaGreat
