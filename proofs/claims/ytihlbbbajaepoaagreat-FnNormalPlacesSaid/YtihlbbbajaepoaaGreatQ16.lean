/-
  Clone, Brg, LawT, Text.
-/
import Derived.Test.YtihlbbbajaepoaaGreatQ01
import Derived.Test.YtihlbbbajaepoaaGreatQ02
import Derived.Test.YtihlbbbajaepoaaGreatQ04
import Derived.Test.YtihlbbbajaepoaaGreatQ05
import Derived.Test.YtihlbbbajaepoaaGreatQ08
import Derived.Test.YtihlbbbajaepoaaGreatQ10
import Derived.ControlIn
import Derived.Laws.IdiomStrings
import Derived.Laws.MakeOwn
import Derived.OrdersIn
import Derived.ProofKit
import Derived.RangeFuncCalls
import Derived.StillTailTactics
import Derived.Test.YtihlbbbajaepoaaGreatProg
import Derived.WalkSpells
namespace Go.Proofs.YtihlbbbajaepoaaGreat
open Go.RowKit
end Go.Proofs.YtihlbbbajaepoaaGreat
namespace Go.Proofs.YtihlbbbajaepoaaGreat
open Go.RowKit
def BoxAt (g : Nat) (k n : Int) (s : Value) (w : World) : Prop := g < w.heap.size ∧ w.cell? ⟨g, 0, none⟩ = some (.int .i64 k) ∧ w.cell? ⟨g, 1, none⟩ = some (.int .i64 n) ∧ w.cell? ⟨g, 2, none⟩ = some s
theorem BoxAt.below {g : Nat} {k n : Int} {s : Value} {w w' : World} (h : BoxAt g k n s w) (hb : Below w.heap.size w w') : BoxAt g k n s w' :=
 ⟨Nat.lt_of_lt_of_le h.1 hb.size, (hb.cell (p := ⟨g, 0, none⟩) h.1).trans h.2.1, (hb.cell (p := ⟨g, 1, none⟩) h.1).trans h.2.2.1, (hb.cell (p := ⟨g, 2, none⟩) h.1).trans h.2.2.2⟩
end Go.Proofs.YtihlbbbajaepoaaGreat
namespace Go.Proofs.YtihlbbbajaepoaaGreat
open Go.RowKit
theorem sameAt_set {w : World} {p : Addr} {u : Value} {g : Nat} (h : g ≠ p.block) : SameAt w (w.setCell p u) g := SameAt.of_block (Below.heap_setCell w p u g h)
theorem SameAt.trans {a b c : World} {g : Nat} (h : SameAt a b g) (k : SameAt b c g) : SameAt a c g := fun i => ⟨(k i).1.trans (h i).1, (k i).2.trans (h i).2⟩
end Go.Proofs.YtihlbbbajaepoaaGreat
namespace Go.Proofs.YtihlbbbajaepoaaGreat
open Go.RowKit
end Go.Proofs.YtihlbbbajaepoaaGreat
namespace Go.Proofs.YtihlbbbajaepoaaGreat
open Go.RowKit
theorem hold_be {w w1 : World} {q : Prop} (h : Below w.heap.size w w1 ∧ q) : Below w.heap.size w w1 := h.1
theorem BoxAt.set1 {g : Nat} {k n : Int} {s : Value} {w : World} {p : Addr} {u : Value} (h : BoxAt g k n s w) (hp : p.block ≠ g) : BoxAt g k n s (w.setCell p u) := by
 have hz : (w.setCell p u).heap.size = w.heap.size := by simp [World.setCell]
 exact ⟨by rw [hz]; exact h.1, (World.cell?_setCell_far w p _ u hp).trans h.2.1, (World.cell?_setCell_far w p _ u hp).trans h.2.2.1, (World.cell?_setCell_far w p _ u hp).trans h.2.2.2⟩
theorem VarAt.set3 {g : Nat} {k n k' n' : Int} {s s' : Value} {w : World} (h : VarAt g k n s w) : VarAt g k' n' s' (((w.setCell ⟨g, 0, none⟩ (.int .i64 k')).setCell ⟨g, 1, none⟩ (.int .i64 n')).setCell ⟨g, 2, none⟩ s') := by
 have h0 : VarAt g k' n s (w.setCell ⟨g, 0, none⟩ (.int .i64 k')) := by
  have := block_set h 0 (.int .i64 k')
  simpa [VarAt] using this
 have h1 : VarAt g k' n' s ((w.setCell ⟨g, 0, none⟩ (.int .i64 k')).setCell ⟨g, 1, none⟩ (.int .i64 n')) := by
  have := block_set h0 1 (.int .i64 n')
  simpa [VarAt] using this
 have := block_set h1 2 s'
 simpa [VarAt] using this
theorem VarAt.four {g : Nat} {k n : Int} {s : Value} {w : World} (h : VarAt g k n s w) : g < w.heap.size ∧ w.cell? ⟨g, 0, none⟩ = some (.int .i64 k) ∧ w.cell? ⟨g, 1, none⟩ = some (.int .i64 n) ∧ w.cell? ⟨g, 2, none⟩ = some s := ⟨h.facts.1, h.facts.2.1, h.facts.2.2.1, h.facts.2.2.2.1⟩
end Go.Proofs.YtihlbbbajaepoaaGreat
namespace Go.Proofs.YtihlbbbajaepoaaGreat
open Go.RowKit
set_option maxRecDepth 100000 in
theorem cloneI_any : ∀ (l : List Tm) (k n : Int) (w : World) (v : Value), sizes l ≤ 1000000 → SlIn w 0 l v →
  Calls Tryz.prog 61 #[.agg #[.int .i64 k, .int .i64 n, v]] w (MadePost w (Tm.mk k n l)) := by
 intro l
 induction l using Tm.ind with
 | h l ih =>
 intro k n w v hsz hin
 obtain ⟨a, cap, bb, o, rfl, hl, hp, hc⟩ := hin.open
 clear hin
 have HPOST : Hid (∀ w' s F, Below w.heap.size w w' → SlOwn w' l s F → F.Nodup → (∀ g ∈ F, w.heap.size ≤ g ∧ g < w'.heap.size) → MadePost w (Tm.mk k n l) (.returned (.agg #[.int .i64 k, .int .i64 n, s])) w') := fun w' s F a1 a2 a3 a4 =>
  ⟨a1, _, rfl, s, F, rfl, a2, a3, a4⟩
 generalize MadePost w (Tm.mk k n l) = post at *
 have hll := length_le_sizes l
 have hl4 : l.length ≤ 1000000 := by omega
 have HI := tuck ih
 have HP := tuck hp
 have HC := tuck hc
 have HSZ := tuck hsz
 clear ih hp hc hsz hll
 by_cases hl0 : l.length = 0
 ·have hl' : l = [] := List.length_eq_zero_iff.1 hl0
  subst hl'
  go_enter Tryz.func61, Tryz.ntmps61
  go_wp2_with fail
  refine bodyPost_ret (v := .agg #[.int .i64 k, .int .i64 n, .slice none 0 0]) (by simp [results, Tryz.results61, go_sem]) rfl (HPOST.out _ _ [] ?_ (SlOwn.nil _ _ _) List.nodup_nil (fun g h => by cases h))
  exact below3 _ _ _ _
 have hpos : 0 < l.length := by omega
 have hposi : (0 : Int) < (l.length : Int) := by omega
 obtain ⟨i0, hi, hz0, hz1', hz2⟩ := info_parts info_term'
 have hmk : ∀ W : World, (Instr.makeSlice 32 (.int .i64 (l.length : Int)) (.int .i64 (l.length : Int))).run Tryz.prog W = .ok (.slice (some ⟨W.heap.size, 0, none⟩) l.length l.length) (W.alloc (.cells (madeCells #[.int .i64 0, .int .i64 0, .slice none 0 0] (l.length * 3)) 34)) := fun W => by
  have h := run_make (P := Tryz.prog) W 32 34 i0 _ Tryz.underlying32 hi hz0 .i64 .i64 (l.length : Int) (l.length : Int) (by omega) (Int.le_refl _) (by rw [hz2]; omega) (by omega)
  rw [hz1'] at h
  simpa [Value.cells] using h
 clear hi hz0 hz1' hz2
 have HB2 := tuck ((below3 w (.cells #[.int .i64 k, .int .i64 n, .slice a l.length cap] 34) (.cells #[.int .i64 0, .int .i64 0, .slice none 0 0] 34) (.cells #[.int .i64 k, .int .i64 n, (.slice (some ⟨w.heap.size + 1 + 1 + 1, 0, none⟩) l.length l.length)] 34)).alloc (by simp; omega) (.cells (madeCells #[.int .i64 0, .int .i64 0, .slice none 0 0] (l.length * 3)) 34))
 have HT2 := tuck ((((VarAt.new w k n (.slice a l.length cap)).below (below1 _ (.cells #[.int .i64 0, .int .i64 0, .slice none 0 0] 34))).below (below1 _ (.cells #[.int .i64 k, .int .i64 n, (.slice (some ⟨w.heap.size + 1 + 1 + 1, 0, none⟩) l.length l.length)] 34))).below (below1 _ (.cells (madeCells #[.int .i64 0, .int .i64 0, .slice none 0 0] (l.length * 3)) 34)))
 have HC2 : Hid (VarAt (w.heap.size + 1 + 1) k n (.slice (some ⟨w.heap.size + 1 + 1 + 1, 0, none⟩) l.length l.length) ((((w.alloc (.cells #[.int .i64 k, .int .i64 n, .slice a l.length cap] 34)).alloc (.cells #[.int .i64 0, .int .i64 0, .slice none 0 0] 34)).alloc (.cells #[.int .i64 k, .int .i64 n, (.slice (some ⟨w.heap.size + 1 + 1 + 1, 0, none⟩) l.length l.length)] 34)).alloc (.cells (madeCells #[.int .i64 0, .int .i64 0, .slice none 0 0] (l.length * 3)) 34))) := tuck (by
  have := (var_new2 w (.cells #[.int .i64 k, .int .i64 n, .slice a l.length cap] 34) (.cells #[.int .i64 0, .int .i64 0, .slice none 0 0] 34) k n (.slice (some ⟨w.heap.size + 1 + 1 + 1, 0, none⟩) l.length l.length)).below (below1 _ (.cells (madeCells #[.int .i64 0, .int .i64 0, .slice none 0 0] (l.length * 3)) 34))
  exact this)
 have HZ2 : Hid (VarAt (w.heap.size + 1) 0 0 (.slice none 0 0) ((((w.alloc (.cells #[.int .i64 k, .int .i64 n, .slice a l.length cap] 34)).alloc (.cells #[.int .i64 0, .int .i64 0, .slice none 0 0] 34)).alloc (.cells #[.int .i64 k, .int .i64 n, (.slice (some ⟨w.heap.size + 1 + 1 + 1, 0, none⟩) l.length l.length)] 34)).alloc (.cells (madeCells #[.int .i64 0, .int .i64 0, .slice none 0 0] (l.length * 3)) 34))) := tuck (by
  have := ((var_new1 w (.cells #[.int .i64 k, .int .i64 n, .slice a l.length cap] 34) 0 0 (.slice none 0 0)).below (below1 _ (.cells #[.int .i64 k, .int .i64 n, (.slice (some ⟨w.heap.size + 1 + 1 + 1, 0, none⟩) l.length l.length)] 34))).below (below1 _ (.cells (madeCells #[.int .i64 0, .int .i64 0, .slice none 0 0] (l.length * 3)) 34))
  exact this)
 have HR2 : Hid (((((w.alloc (.cells #[.int .i64 k, .int .i64 n, .slice a l.length cap] 34)).alloc (.cells #[.int .i64 0, .int .i64 0, .slice none 0 0] 34)).alloc (.cells #[.int .i64 k, .int .i64 n, (.slice (some ⟨w.heap.size + 1 + 1 + 1, 0, none⟩) l.length l.length)] 34)).alloc (.cells (madeCells #[.int .i64 0, .int .i64 0, .slice none 0 0] (l.length * 3)) 34)).heap[w.heap.size + 1 + 1 + 1]? = some (.cells (madeCells #[.int .i64 0, .int .i64 0, .slice none 0 0] (l.length * 3)) 34)) := tuck (by
  have := heap_new (((w.alloc (.cells #[.int .i64 k, .int .i64 n, .slice a l.length cap] 34)).alloc (.cells #[.int .i64 0, .int .i64 0, .slice none 0 0] 34)).alloc (.cells #[.int .i64 k, .int .i64 n, (.slice (some ⟨w.heap.size + 1 + 1 + 1, 0, none⟩) l.length l.length)] 34)) (.cells (madeCells #[.int .i64 0, .int .i64 0, .slice none 0 0] (l.length * 3)) 34)
  rwa [show (((w.alloc (.cells #[.int .i64 k, .int .i64 n, .slice a l.length cap] 34)).alloc (.cells #[.int .i64 0, .int .i64 0, .slice none 0 0] 34)).alloc (.cells #[.int .i64 k, .int .i64 n, (.slice (some ⟨w.heap.size + 1 + 1 + 1, 0, none⟩) l.length l.length)] 34)).heap.size = w.heap.size + 1 + 1 + 1 by simp] at this)
 go_enter Tryz.func61, Tryz.ntmps61
 go_wp2_with fail
 generalize ((((w.alloc (.cells #[.int .i64 k, .int .i64 n, .slice a l.length cap] 34)).alloc (.cells #[.int .i64 0, .int .i64 0, .slice none 0 0] 34)).alloc (.cells #[.int .i64 k, .int .i64 n, (.slice (some ⟨w.heap.size + 1 + 1 + 1, 0, none⟩) l.length l.length)] 34)).alloc (.cells (madeCells #[.int .i64 0, .int .i64 0, .slice none 0 0] (l.length * 3)) 34)) = W2 at *
 clear hmk
 go_loopw [23] (fun i wr => ∃ (q : Nat) (F : List Nat), q ≤ l.length ∧ i = .int .i64 q ∧ Below w.heap.size w wr ∧ VarAt (w.heap.size + 1) 0 0 (.slice none 0 0) wr ∧ VarAt (w.heap.size + 1 + 1) k n (.slice (some ⟨w.heap.size + 1 + 1 + 1, 0, none⟩) l.length l.length) wr ∧
   (∃ cs : Array Value, wr.heap[w.heap.size + 1 + 1 + 1]? = some (.cells cs 34 (0, 0)) ∧ cs.size = l.length * 3) ∧ RowOwn wr (l.take q) (w.heap.size + 1 + 1 + 1) 0 F ∧ F.Nodup ∧ ∀ x ∈ F, w.heap.size + 1 + 1 + 1 < x ∧ x < wr.heap.size) (fun i _ => l.length - (intOf i).toNat)
 case atStart => exact ⟨0, [], Nat.zero_le _, rfl, HB2.out, HZ2.out, HC2.out, ⟨_, HR2.out, size_madeCells _ _⟩, by rw [List.take_zero, RowOwn], List.nodup_nil, fun x h => by cases h⟩
 case round =>
  obtain ⟨q, F, hq, rfl, hb, hyz, hy4, ⟨cs, hcs, hcz⟩, hro, hnd, hF⟩ := hrel
  have HB := tuck hb
  have HYZ := tuck hyz
  have HY4 := tuck hy4
  have HCS := tuck hcs
  have HRO := tuck hro
  have HND := tuck hnd
  have HF := tuck hF
  clear hb hyz hy4 hcs hro hnd hF
  obtain ⟨z4, a0, a1, a2, af⟩ := HY4.out.facts
  by_cases hlt : q < l.length
  ·have hlti : ((q : Int) < (l.length : Int)) := by omega
   have hqi : (0 : Int) ≤ (q : Int) := by omega
   have hzr4 := (block_of_cells HCS.out).1
   have HTAKE1 : Hid (l.take (q + 1) = l.take q ++ [l[q]]) := List.take_succ_eq_append_getElem hlt
   obtain ⟨rfl, _, hbw⟩ := HP.out (by intro e; rw [e] at hlt; simp at hlt)
   obtain ⟨s, c0, c1, c2, hs⟩ := HC.out q hlt
   obtain ⟨sa, sc, rfl⟩ := hs.form
   replace c0 := (HB.out.cell (p := ⟨bb, o + q * 3, none⟩) hbw).trans c0
   replace c1 := (HB.out.cell (p := ⟨bb, o + q * 3 + 1, none⟩) hbw).trans c1
   replace c2 := (HB.out.cell (p := ⟨bb, o + q * 3 + 2, none⟩) hbw).trans c2
   have HS := tuck hs
   have HCALL : Hid (∀ w1, Below w.heap.size w w1 → Calls Tryz.prog 61 #[.agg #[.int .i64 l[q].kind, .int .i64 l[q].num, .slice sa l[q].kids.length sc]] w1 (MadePost w1 l[q])) := fun w1 h1 => by
    have := HI.out q hlt l[q].kind l[q].num w1 _ (by have := kids_get_lt l q hlt; have := HSZ.out; omega) (HS.out.below h1)
    rwa [Tm.eta] at this
   clear hs HI
   generalize l[q] = x at *
   go_wp2_with fail
   have hbk := below1 wr (.cells #[.int .i64 x.kind, .int .i64 x.num, .slice sa x.kids.length sc] 34)
   have hz4k : wr.heap.size < (wr.alloc (.cells #[.int .i64 x.kind, .int .i64 x.num, .slice sa x.kids.length sc] 34)).heap.size := by simp
   have k0 := VarAt.new wr x.kind x.num (.slice sa x.kids.length sc)
   have HS0 : Hid ((w.heap.size + 1 + 1 < (wr.alloc (.cells #[.int .i64 x.kind, .int .i64 x.num, .slice sa x.kids.length sc] 34)).drew.heap.size ∧ (wr.alloc (.cells #[.int .i64 x.kind, .int .i64 x.num, .slice sa x.kids.length sc] 34)).drew.cell? ⟨w.heap.size + 1 + 1, 2, none⟩ = some (.slice (some ⟨w.heap.size + 1 + 1 + 1, 0, none⟩) l.length l.length)) ∧ (wr.alloc (.cells #[.int .i64 x.kind, .int .i64 x.num, .slice sa x.kids.length sc] 34)).drew.cell? ⟨wr.heap.size, 0, none⟩ = some (.int .i64 x.kind) ∧ (wr.alloc (.cells #[.int .i64 x.kind, .int .i64 x.num, .slice sa x.kids.length sc] 34)).drew.cell? ⟨wr.heap.size, 1, none⟩ = some (.int .i64 x.num) ∧ (wr.alloc (.cells #[.int .i64 x.kind, .int .i64 x.num, .slice sa x.kids.length sc] 34)).drew.cell? ⟨wr.heap.size, 2, none⟩ = some (.slice sa x.kids.length sc)) := tuck
    ⟨⟨Nat.lt_of_lt_of_le z4 hbk.size, (hbk.cell (p := ⟨w.heap.size + 1 + 1, 2, none⟩) z4).trans a2⟩, k0.facts.2.1, k0.facts.2.2.1, k0.facts.2.2.2.1⟩
   have HKV := tuck k0
   have hkne : wr.heap.size ≠ w.heap.size + 1 + 1 + 1 := by omega
   have HBK := tuck (bAfter HB.out hbk)
   have HYK := tuck (HY4.out.below hbk)
   have HYZK := tuck (HYZ.out.below hbk)
   have HCSK := tuck ((hbk.block _ hzr4).trans HCS.out)
   have HROK := tuck (HRO.out.keep (fun i _ => hbk.cell (p := ⟨w.heap.size + 1 + 1 + 1, 0 + i, none⟩) hzr4) (fun y hy => SameAt.of_block (hbk.block y (HF.out y hy).2)))
   have HFK : Hid (∀ y ∈ F, w.heap.size + 1 + 1 + 1 < y ∧ y < (wr.alloc (.cells #[.int .i64 x.kind, .int .i64 x.num, .slice sa x.kids.length sc] 34)).heap.size) := tuck fun y hy => ⟨(HF.out y hy).1, Nat.lt_of_lt_of_le (HF.out y hy).2 hbk.size⟩
   have hzrk : w.heap.size + 1 + 1 + 1 < (wr.alloc (.cells #[.int .i64 x.kind, .int .i64 x.num, .slice sa x.kids.length sc] 34)).heap.size := Nat.lt_of_lt_of_le hzr4 hbk.size
   clear hbk k0 a0 a1 a2 c0 c1 c2 HB HYZ HY4 HCS HRO HF hzr4
   generalize wr.alloc (.cells #[.int .i64 x.kind, .int .i64 x.num, .slice sa x.kids.length sc] 34) = WK at *
   generalize wr.heap.size = gk at *
   go_region_held3 (fun w' => (w.heap.size + 1 + 1 < w'.heap.size ∧ w'.cell? ⟨w.heap.size + 1 + 1, 2, none⟩ = some (.slice (some ⟨w.heap.size + 1 + 1 + 1, 0, none⟩) l.length l.length)) ∧ w'.cell? ⟨gk, 0, none⟩ = some (.int .i64 x.kind) ∧ w'.cell? ⟨gk, 1, none⟩ = some (.int .i64 x.num) ∧ w'.cell? ⟨gk, 2, none⟩ = some (.slice sa x.kids.length sc)) (first | exact HS0.out | exact ⟨⟨HV3.out.facts.1, HV3.out.facts.2.2.2.1⟩, HK3.out.facts.2.1, HK3.out.facts.2.2.1, HK3.out.facts.2.2.2.1⟩ | exact ⟨⟨HV4.out.facts.1, HV4.out.facts.2.2.2.1⟩, HK4.out.facts.2.1, HK4.out.facts.2.2.1, HK4.out.facts.2.2.2.1⟩) ((go_at_call 61; refine (HCALL.out _ (bAfter HBK.out (Below.refl _ _).drew)).mono ?_; rintro e w3 ⟨hb3, tv, rfl, sv, F2, rfl, hs2, hnd2, hF2⟩; obtain ⟨sva, svc, rfl⟩ := hs2.form; have HV3 := tuck ((HYK.out.below (Below.refl _ _).drew).below hb3); have HV4 := tuck (HV3.out.far3 (Nat.ne_of_lt (Nat.lt_succ_self _)) (q * 3) (q * 3 + 1) (q * 3 + 2) (.int .i64 x.kind) (.int .i64 x.num) (.slice sva x.kids.length svc)); have HC3 := tuck ((hb3.block (w.heap.size + 1 + 1 + 1) hzrk).trans HCSK.out); have c30 := ((block_of_cells HC3.out).2.1 (q * 3)).trans (Array.getElem?_eq_getElem (by omega)); have c31 := ((block_of_cells HC3.out).2.1 (q * 3 + 1)).trans (Array.getElem?_eq_getElem (by omega)); have c32 := ((block_of_cells HC3.out).2.1 (q * 3 + 2)).trans (Array.getElem?_eq_getElem (by omega)); have c3f := (block_of_cells HC3.out).2.2; have HK3 := tuck ((HKV.out.below (Below.refl _ _).drew).below hb3); have HK4 := tuck (HK3.out.far3 hkne (q * 3) (q * 3 + 1) (q * 3 + 2) (.int .i64 x.kind) (.int .i64 x.num) (.slice sva x.kids.length svc))))
   have HIN := tuck hs2
   have HN2 := tuck hnd2
   have HF2 := tuck hF2
   have HB' := tuck hb3
   clear hs2 hnd2 hF2 hb3 c30 c31 c32 c3f
   go_wp2_with fail
   go_roundw
   case rel =>
    have hd : WK.drew.heap.size = WK.heap.size := rfl
    have hRF : w.heap.size + 1 + 1 + 1 ∉ F := fun h => by have := (HFK.out _ h).1; omega
    have hRF2 : w.heap.size + 1 + 1 + 1 ∉ F2 := fun h => by have := (HF2.out _ h).1; omega
    have hro3 : RowOwn w3 (l.take q) (w.heap.size + 1 + 1 + 1) 0 F := HROK.out.keep (fun i _ => HB'.out.cell (p := ⟨w.heap.size + 1 + 1 + 1, 0 + i, none⟩) hzrk) (fun y hy => SameAt.of_block (HB'.out.block y (HFK.out y hy).2))
    obtain ⟨hp1, hp2⟩ := row_put HC3.out hlt hcz hro3 HIN.out hRF hRF2
    have hb5 := bAfter HBK.out (bAfter (Below.refl _ _).drew HB'.out)
    refine ⟨q + 1, F ++ F2, by omega, by go_num, bSet3 hb5 (by omega) _ _ _ _ _ _, ?_, HV4.out, hp1, by rw [HTAKE1.out]; exact hp2, ?_, fun y hy => ?_⟩
    ·exact (((HYZK.out.below (Below.refl _ _).drew).below HB'.out).far3 (by omega) _ _ _ _ _ _)
    ·refine List.nodup_append.2 ⟨HND.out, HN2.out, fun a ha b hb e => ?_⟩
     have := (HFK.out a ha).2
     have := (HF2.out b hb).1
     omega
    ·rw [size_set3]
     have hz := HB'.out.size
     rcases List.mem_append.1 hy with hy | hy
     ·have := HFK.out y hy
      omega
     ·have := HF2.out y hy
      omega
   case measure => simp [intOf]; omega
  ·have hge2 : ¬ ((q : Int) < (l.length : Int)) := by omega
   have e : q = l.length := by omega
   subst e
   obtain ⟨zv, v0, v1, v2, vf⟩ := HYZ.out.facts
   go_wp2_with fail
   refine bodyPost_ret (v := .agg #[.int .i64 k, .int .i64 n, (.slice (some ⟨w.heap.size + 1 + 1 + 1, 0, none⟩) l.length l.length)]) (by simp [results, Tryz.results61, go_sem, *]) rfl (HPOST.out _ _ ((w.heap.size + 1 + 1 + 1) :: F) ?_ ?_ (List.nodup_cons.2 ⟨fun h => by have := (HF.out _ h).1; omega, HND.out⟩) fun y hy => ?_)
   ·exact bSet3 HB.out (by omega) _ _ _ _ _ _
   ·have hso : SlOwn wr l (.slice (some ⟨w.heap.size + 1 + 1 + 1, 0, none⟩) l.length l.length) ((w.heap.size + 1 + 1 + 1) :: F) := by
     have hro := HRO.out
     rw [List.take_length] at hro
     exact ⟨some ⟨w.heap.size + 1 + 1 + 1, 0, none⟩, l.length, w.heap.size + 1 + 1 + 1, F, rfl, by unfold maxLen; omega, Or.inr ⟨rfl, rfl, (block_of_cells HCS.out).2.2⟩, fun _ => hro⟩
    refine hso.set3 (fun h => ?_) _ _ _ _ _ _
    rcases List.mem_cons.1 h with h | h
    ·omega
    ·have := (HF.out _ h).1; omega
   ·rw [size_set3]
    have := (block_of_cells HCS.out).1
    rcases List.mem_cons.1 hy with rfl | hy
    ·omega
    ·have := HF.out y hy
     omega
end Go.Proofs.YtihlbbbajaepoaaGreat
namespace Go.Proofs.YtihlbbbajaepoaaGreat
open Go
def noDefer (ops : Array Oper) : Bool := ops.all fun o => match o.op with | .defer _ => false | _ => true
theorem noDefer_spec {ops : Array Oper} (h : noDefer ops = true) {j : Nat} {o : Oper} (hj : ops[j]? = some o) : ∀ c, o.op ≠ .defer c := by
 intro c hc
 unfold noDefer at h
 rw [Array.all_eq_true'] at h
 have := h o (Array.mem_of_getElem? hj)
 rw [hc] at this
 cases this
section
variable {P : Program} {ops : Array Oper} {Q : Exit → Act → World → Prop} {md : Region.Mode} {l n : Nat}
theorem uponIn_of {o : Oper} {a : Act} {K : Act → World → Prop} {r : Result Next} (h : o.upon P a K Q r) : o.uponIn (Fence.wide.inRound l) n P a K Q r := by
 unfold Oper.upon at h
 unfold Oper.uponIn
 split at h
 ·exact h
 ·exact h
 ·exact h
 ·exact ⟨fun h => (by cases h), CallsIn.inRound l (callsIn_wide.2 h)⟩
 ·refine ⟨fun h => (by cases h), fun c cs _ => ?_⟩
  obtain ⟨v, w', h1, h2⟩ := h c cs
  exact ⟨v, w', h1, stepsIn_wide.2 h2⟩
 ·exact h
 ·exact h.elim
theorem wpOpIn_of (hnd : noDefer ops = true) (ho : ¬ LetsOut Q) {i : Nat} {K : Act → World → Prop} {a : Act} {w : World} (h : wpOp P ops Q i K a w) : wpOpIn (Fence.wide.inRound l) n P ops Q i K a w := by
 unfold wpOp at h
 unfold wpOpIn
 split
 ·rename_i hi
  simpa [hi] using h
 ·rename_i o hoi
  have ho' := ho
  simp only [hoi] at h
  split
  ·rename_i hw
   simp only [hw, if_true] at h
   refine ⟨fun _ _ => trivial, ?_⟩
   rw [Oper.semAt_eq _ _ _ (noDefer_spec hnd hoi)]
   rcases h with h | ⟨-, h⟩
   ·exact uponIn_of h
   ·exact absurd h ho'
  ·rename_i hw
   simp only [hw] at h
   exact ⟨fun _ _ => trivial, h⟩
theorem wpAnyIn_of (hnd : noDefer ops = true) (ho : ¬ LetsOut Q) : ∀ (fuel : Nat) (L : Array Bool) (a : Act) (w : World), wpAny P md ops Q fuel L a w → wpAnyIn (Fence.wide.inRound l) n P md ops Q fuel L a w
 | 0, _, _, _, h => h
 | fuel + 1, _, _, _, h => ⟨h.1, fun i hi => wpOpIn_mono (fun a' w' h' => wpAnyIn_of hnd ho fuel _ a' w' h') (wpOpIn_of hnd ho (h.2 i hi))⟩
theorem AnyTwo.beginIn {id : Nat} {a : Act} {w : World} (S1 S2 : World → Prop) (m : Nat) (hm : P.follows .mixedOrders = true) (hnd : noDefer ops = true) (ho : ¬ LetsOut Q)
  (h : AnyTwo P .any ops Q S1 S2 m ops.size (Array.replicate ops.size false) a w.drew) : (Code.region id ops true).wpIn (Fence.wide.inRound l) n P Q a w :=
 wpIn_region_any hm (wpAnyIn_of hnd ho _ _ _ _ (AnyTwo.any _ _ _ _ h))
theorem AnyTwo.beginN {id : Nat} {a : Act} {w : World} (S1 S2 : World → Prop) (m : Nat) (hm : P.follows .mixedOrders = true) (hnd : noDefer ops = true)
  (h : AnyTwo P .any ops (fun e a w => e = .normal ∧ Q .normal a w) S1 S2 m ops.size (Array.replicate ops.size false) a w.drew) : (Code.region id ops true).wpIn (Fence.wide.inRound l) n P Q a w :=
 wpIn_mono (AnyTwo.beginIn S1 S2 m hm hnd (fun ⟨_, _, h⟩ => nomatch h.1) h) (fun e a w h => by rw [h.1]; exact h.2)
end
end Go.Proofs.YtihlbbbajaepoaaGreat
namespace Go.Proofs.YtihlbbbajaepoaaGreat
open Go.RowKit
def decS (n : Nat) : ByteArray := if n ≤ 9 then ByteArray.mk #[UInt8.ofNat (48 + n)] else ByteArray.mk #[UInt8.ofNat (48 + n / 10), UInt8.ofNat (48 + n % 10)]
def kidS (L : List ByteArray) (i : Nat) : ByteArray := L.getD i (ByteArray.mk #[])
def joinN (L : List ByteArray) : Nat → ByteArray
 | 0 => (ByteArray.mk #[])
 | q + 1 => (if 0 < q then joinN L q ++ (ByteArray.mk #[44]) else joinN L q) ++ kidS L q
def txtOf (k : Int) (n : Nat) (L : List ByteArray) : ByteArray :=
 if k = 1 then (ByteArray.mk #[35]) ++ decS n else if k = 2 then (ByteArray.mk #[42]) ++ decS n else if k = 6 then (ByteArray.mk #[78]) else if k = 7 then (ByteArray.mk #[48])
 else if k = 8 then (ByteArray.mk #[43]) ++ kidS L 0
 else if k = 11 then (ByteArray.mk #[33]) ++ kidS L 0
 else if k = 15 then (ByteArray.mk #[94]) ++ kidS L 0
 else if k = 16 then (ByteArray.mk #[95]) ++ kidS L 0
 else if k = 3 then (ByteArray.mk #[40]) ++ kidS L 0 ++ (ByteArray.mk #[62]) ++ kidS L 1 ++ (ByteArray.mk #[41])
 else if k = 13 then (ByteArray.mk #[40]) ++ kidS L 0 ++ (ByteArray.mk #[42]) ++ kidS L 1 ++ (ByteArray.mk #[41])
 else if k = 5 then (ByteArray.mk #[40]) ++ kidS L 0 ++ (ByteArray.mk #[32]) ++ kidS L 1 ++ (ByteArray.mk #[41])
 else if k = 4 then (ByteArray.mk #[91]) ++ kidS L 0 ++ (ByteArray.mk #[93]) ++ kidS L 1
 else if k = 10 then (ByteArray.mk #[123]) ++ joinN L 3 ++ (ByteArray.mk #[125])
 else if k = 14 then (ByteArray.mk #[124]) ++ joinN L 3 ++ (ByteArray.mk #[124])
 else if k = 12 then (ByteArray.mk #[64, 60]) ++ joinN L 3 ++ (ByteArray.mk #[62])
 else (ByteArray.mk #[60]) ++ joinN L 4 ++ (ByteArray.mk #[62])
mutual
def Tm.txt : Tm → ByteArray
 | .mk k n l => txtOf k n.toNat (txtL l)
def txtL : List Tm → List ByteArray
 | [] => []
 | t :: l => t.txt :: txtL l
end
theorem kidS_txt : ∀ (l : List Tm) (i : Nat) (h : i < l.length), kidS (txtL l) i = l[i].txt
 | t :: l, 0, h => by rw [txtL]; rfl
 | t :: l, i + 1, h => by
  have := kidS_txt l i (by simpa using h)
  rw [txtL]
  exact this
theorem decS_size (n : Nat) : (decS n).size ≤ 2 := by unfold decS; split <;> simp [ByteArray.size]
def StrPost (w : World) (s : ByteArray) (e : Ending) (w' : World) : Prop := e = .returned (.string s) ∧ Below w.heap.size w w'
theorem ba_empty (a : ByteArray) : a ++ ByteArray.mk #[] = a := by
 apply ByteArray.ext
 simp [ByteArray.data_append]
theorem ba_pair (x y : UInt8) : ByteArray.mk #[x] ++ ByteArray.mk #[y] = ByteArray.mk #[x, y] := by
 apply ByteArray.ext
 simp [ByteArray.data_append]
theorem byte_text (m : Nat) (hm : m ≤ 255) (W : World) : (convert 43 9 (.slice (some ⟨W.heap.size, 0, none⟩) 1 1)).run Tryz.prog (W.alloc (.cells #[.int .u8 m] 5)) = .ok (.string (ByteArray.mk #[UInt8.ofNat m])) (W.alloc (.cells #[.int .u8 m] 5)) := by
 have h := run_convert_bytes_back (P := Tryz.prog) (W.alloc (.cells #[.int .u8 m] 5)) 43 9 5 ⟨W.heap.size, 0, none⟩ 1 [UInt8.ofNat m] Tryz.underlying43 Tryz.underlying5 Tryz.underlying9 (fun j hj => by
  have hj0 : j = 0 := by simpa using hj
  subst hj0
  have e : (UInt8.ofNat m).toNat = m := by simp; omega
  simp only [List.getElem_cons_zero, e]
  show (W.alloc _).cell? ⟨W.heap.size, 0, none⟩ = _
  rw [World.cell?_alloc_new]
  rfl)
 exact h
set_option maxRecDepth 100000 in
set_option maxHeartbeats 1600000 in
theorem dec_any (n : Nat) (hn : n ≤ 99) (w : World) : Calls Tryz.prog 158 #[.int .i64 n] w (StrPost w (decS n)) := by
 have HP : Hid (∀ s w', s = decS n → Below w.heap.size w w' → StrPost w (decS n) (.returned (.string s)) w') := tuck fun s w' h hb => by rw [h]; exact ⟨rfl, hb⟩
 generalize StrPost w (decS n) = post at *
 have h1 : decide ((n : Int) < -9223372036854775807) = false := decide_eq_false (by omega)
 have h2 : decide ((n : Int) < 0) = false := decide_eq_false (by omega)
 have HT := tuck byte_text
 go_enter Tryz.func158, Tryz.ntmps158
 go_wp2_with fail
 go_loopw [0, 3] (fun m out wr => ∃ (k : Nat) (o : ByteArray), out = .string o ∧ m = .int .i64 k ∧ k ≤ n ∧ Below w.heap.size w wr ∧ ((k = n ∧ o = ByteArray.mk #[]) ∨ (9 < n ∧ k = n / 10 ∧ o = ByteArray.mk #[UInt8.ofNat (48 + n % 10)]))) (fun m _ _ => (intOf m).toNat)
 case atStart => exact ⟨n, _, rfl, rfl, Nat.le_refl _, Below.refl _ _, Or.inl ⟨rfl, rfl⟩⟩
 case round =>
  obtain ⟨k, o, rfl, rfl, hk, hb, hor⟩ := hrel
  have HB := tuck hb
  have HOR := tuck hor
  clear hb hor
  by_cases h9 : k ≤ 9
  ·have h3 : decide ((9 : Int) < (k : Int)) = false := decide_eq_false (by omega)
   have hcv := HT.out (48 + k) (by omega) wr
   rw [show ((48 + k : Nat) : Int) = 48 + (k : Int) by omega] at hcv
   obtain ⟨c, hc⟩ : ∃ c, c = ByteArray.mk #[UInt8.ofNat (48 + k)] := ⟨_, rfl⟩
   rw [← hc] at hcv
   have hsz : ¬ (9223372036854775807 < c.size + o.size) := by
    have h1 : c.size = 1 := by rw [hc]; rfl
    have h2 : o.size ≤ 1 := by rcases HOR.out with ⟨_, rfl⟩ | ⟨_, _, rfl⟩ <;> simp [ByteArray.size]
    omega
   have HEND : Hid (∀ w', Below w.heap.size w w' → post (.returned (.string (c ++ o))) w') := tuck fun w' hb => HP.out _ w' (by
    rw [hc]
    rcases HOR.out with ⟨rfl, rfl⟩ | ⟨h10, rfl, rfl⟩
    ·rw [ba_empty, decS, if_pos h9]
    ·rw [ba_pair, decS, if_neg (by omega)]) hb
   clear hc
   go_wp2_with fail
   exact HEND.out _ (HB.out.alloc (HB.out.size) _)
  ·have h3 : decide ((9 : Int) < (k : Int)) = true := decide_eq_true (by omega)
   have hcv := HT.out (48 + k % 10) (by omega) wr
   rw [show ((48 + k % 10 : Nat) : Int) = 48 + (k : Int) % 10 by omega] at hcv
   have HKN : Hid (k = n ∧ o = ByteArray.mk #[]) := tuck (by
    rcases HOR.out with h | ⟨h10, rfl, rfl⟩
    ·exact h
    ·omega)
   obtain ⟨c, hc⟩ : ∃ c, c = ByteArray.mk #[UInt8.ofNat (48 + k % 10)] := ⟨_, rfl⟩
   rw [← hc] at hcv
   have hsz : ¬ (9223372036854775807 < c.size + o.size) := by
    have h1 : c.size = 1 := by rw [hc]; rfl
    have h2 : o.size ≤ 1 := by rcases HOR.out with ⟨_, rfl⟩ | ⟨_, _, rfl⟩ <;> simp [ByteArray.size]
    omega
   have HC := tuck hc
   clear HOR hc
   go_wp2_with fail
   go_roundw
   case rel =>
    obtain ⟨rfl, rfl⟩ := HKN.out
    exact ⟨k / 10, _, rfl, by go_num, by omega, HB.out.alloc (HB.out.size) _, Or.inr ⟨by omega, rfl, by rw [HC.out]; exact ba_empty _⟩⟩
   case measure => simp [intOf]; omega
end Go.Proofs.YtihlbbbajaepoaaGreat
