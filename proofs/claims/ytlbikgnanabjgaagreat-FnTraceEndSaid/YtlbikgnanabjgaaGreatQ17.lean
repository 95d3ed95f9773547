/-
  SpecT.
-/
import Derived.Test.YtlbikgnanabjgaaGreatQ06
import Derived.Test.YtlbikgnanabjgaaGreatQ10
import Derived.Test.YtlbikgnanabjgaaGreatQ14
import Derived.Test.YtlbikgnanabjgaaGreatQ15
import Derived.Test.YtlbikgnanabjgaaGreatQ16
namespace Go.Proofs.YtlbikgnanabjgaaGreat
open Go.RowKit
def MadePost (w : World) (T : Tm) (e : Ending) (w' : World) : Prop := Below w.heap.size w w' ∧ ∃ v, e = .returned v ∧ Made w.heap.size T v w'
theorem shiftL_append (e : Int) (k : Int) : ∀ (a b : List Tm) (i : Nat) (c : Int), shiftL e k (a ++ b) i c = shiftL e k a i c ++ shiftL e k b (i + a.length) c
 | [], b, i, c => by rw [List.nil_append, shiftL, List.nil_append]; rfl
 | t :: a, b, i, c => by
  rw [List.cons_append, shiftL, shiftL, shiftL_append e k a b, List.cons_append, List.length_cons, show i + 1 + a.length = i + (a.length + 1) by omega]
theorem shiftL_take (e k c : Int) {l : List Tm} {q : Nat} (h : q < l.length) : shiftL e k (l.take (q + 1)) 0 c = shiftL e k (l.take q) 0 c ++ [l[q].shift e (c + under k q)] := by
 rw [List.take_succ_eq_append_getElem h, shiftL_append, List.length_take, shiftL, shiftL, show 0 + min q l.length = q by omega]
theorem hold2_below {w w' : World} {g bb o : Nat} {k : Int} {v v2 : Value} {k1 n1 : Int}
  (h : (g < w.heap.size ∧ bb < w.heap.size) ∧ w.cell? ⟨g, 0, none⟩ = some (.int .i64 k) ∧ w.cell? ⟨g, 2, none⟩ = some v ∧ w.cell? ⟨bb, o, none⟩ = some (.int .i64 k1) ∧ w.cell? ⟨bb, o + 1, none⟩ = some (.int .i64 n1) ∧ w.cell? ⟨bb, o + 2, none⟩ = some v2)
  (hb : Below w.heap.size w w') :
  (g < w'.heap.size ∧ bb < w'.heap.size) ∧ w'.cell? ⟨g, 0, none⟩ = some (.int .i64 k) ∧ w'.cell? ⟨g, 2, none⟩ = some v ∧ w'.cell? ⟨bb, o, none⟩ = some (.int .i64 k1) ∧ w'.cell? ⟨bb, o + 1, none⟩ = some (.int .i64 n1) ∧ w'.cell? ⟨bb, o + 2, none⟩ = some v2 := by
 obtain ⟨⟨z0, z1⟩, h1, h2, h3, h4, h5⟩ := h
 have := hb.size
 exact ⟨⟨by omega, by omega⟩, (hb.cell (p := ⟨g, 0, none⟩) z0).trans h1, (hb.cell (p := ⟨g, 2, none⟩) z0).trans h2, (hb.cell (p := ⟨bb, o, none⟩) z1).trans h3, (hb.cell (p := ⟨bb, o + 1, none⟩) z1).trans h4, (hb.cell (p := ⟨bb, o + 2, none⟩) z1).trans h5⟩
theorem hold2_grown {w w' : World} {row : Option Nat} {g bb o : Nat} {k : Int} {v v2 : Value} {k1 n1 : Int}
  (h : (g < w.heap.size ∧ bb < w.heap.size) ∧ w.cell? ⟨g, 0, none⟩ = some (.int .i64 k) ∧ w.cell? ⟨g, 2, none⟩ = some v ∧ w.cell? ⟨bb, o, none⟩ = some (.int .i64 k1) ∧ w.cell? ⟨bb, o + 1, none⟩ = some (.int .i64 n1) ∧ w.cell? ⟨bb, o + 2, none⟩ = some v2)
  (hb : w.grownBy w' row) (hn : some g ≠ row ∧ some bb ≠ row) :
  (g < w'.heap.size ∧ bb < w'.heap.size) ∧ w'.cell? ⟨g, 0, none⟩ = some (.int .i64 k) ∧ w'.cell? ⟨g, 2, none⟩ = some v ∧ w'.cell? ⟨bb, o, none⟩ = some (.int .i64 k1) ∧ w'.cell? ⟨bb, o + 1, none⟩ = some (.int .i64 n1) ∧ w'.cell? ⟨bb, o + 2, none⟩ = some v2 := by
 obtain ⟨⟨z0, z1⟩, h1, h2, h3, h4, h5⟩ := h
 have := hb.size
 exact ⟨⟨by omega, by omega⟩, (hb.cell_far ⟨g, 0, none⟩ z0 hn.1).trans h1, (hb.cell_far ⟨g, 2, none⟩ z0 hn.1).trans h2, (hb.cell_far ⟨bb, o, none⟩ z1 hn.2).trans h3, (hb.cell_far ⟨bb, o + 1, none⟩ z1 hn.2).trans h4, (hb.cell_far ⟨bb, o + 2, none⟩ z1 hn.2).trans h5⟩
theorem hold2_set {w : World} {p : Addr} {u : Value} {g bb o : Nat} {k : Int} {v v2 : Value} {k1 n1 : Int}
  (h : (g < w.heap.size ∧ bb < w.heap.size) ∧ w.cell? ⟨g, 0, none⟩ = some (.int .i64 k) ∧ w.cell? ⟨g, 2, none⟩ = some v ∧ w.cell? ⟨bb, o, none⟩ = some (.int .i64 k1) ∧ w.cell? ⟨bb, o + 1, none⟩ = some (.int .i64 n1) ∧ w.cell? ⟨bb, o + 2, none⟩ = some v2)
  (hg : p.block ≠ g) (hb : p.block ≠ bb) :
  (g < (w.setCell p u).heap.size ∧ bb < (w.setCell p u).heap.size) ∧ (w.setCell p u).cell? ⟨g, 0, none⟩ = some (.int .i64 k) ∧ (w.setCell p u).cell? ⟨g, 2, none⟩ = some v ∧ (w.setCell p u).cell? ⟨bb, o, none⟩ = some (.int .i64 k1) ∧ (w.setCell p u).cell? ⟨bb, o + 1, none⟩ = some (.int .i64 n1) ∧ (w.setCell p u).cell? ⟨bb, o + 2, none⟩ = some v2 := by
 obtain ⟨⟨z0, z1⟩, h1, h2, h3, h4, h5⟩ := h
 have hz : (w.setCell p u).heap.size = w.heap.size := by simp [World.setCell]
 exact ⟨⟨by rw [hz]; exact z0, by rw [hz]; exact z1⟩, (World.cell?_setCell_far w p _ u hg).trans h1, (World.cell?_setCell_far w p _ u hg).trans h2, (World.cell?_setCell_far w p _ u hb).trans h3, (World.cell?_setCell_far w p _ u hb).trans h4, (World.cell?_setCell_far w p _ u hb).trans h5⟩
theorem VarAt.grown {g : Nat} {k n : Int} {s : Value} {w w' : World} {row : Option Nat} (h : VarAt g k n s w) (hb : w.grownBy w' row) (hn : some g ≠ row) : VarAt g k n s w' := (hb.block g h.facts.1 hn).trans h
theorem VarAt.set2 {g : Nat} {k n : Int} {s s' : Value} {w : World} (h : VarAt g k n s w) : VarAt g k n s' (w.setCell ⟨g, 2, none⟩ s') := by
 have := block_set h 2 s'
 simpa [VarAt] using this
theorem var_new1 (w : World) (o : Obj) (k n : Int) (s : Value) : VarAt (w.heap.size + 1) k n s ((w.alloc o).alloc (.cells #[.int .i64 k, .int .i64 n, s] 25)) := by
 have := VarAt.new (w.alloc o) k n s
 rwa [show (w.alloc o).heap.size = w.heap.size + 1 by simp] at this
theorem var_new2 (w : World) (o o' : Obj) (k n : Int) (s : Value) : VarAt (w.heap.size + 1 + 1) k n s (((w.alloc o).alloc o').alloc (.cells #[.int .i64 k, .int .i64 n, s] 25)) := by
 have := VarAt.new ((w.alloc o).alloc o') k n s
 rwa [show ((w.alloc o).alloc o').heap.size = w.heap.size + 1 + 1 by simp] at this
def g3x (w : World) (g bb o : Nat) (k : Int) (v v2 : Value) (k1 n1 : Int) : Prop := (g < w.heap.size ∧ bb < w.heap.size) ∧ w.cell? ⟨g, 0, none⟩ = some (.int .i64 k) ∧ w.cell? ⟨g, 2, none⟩ = some v ∧ w.cell? ⟨bb, o, none⟩ = some (.int .i64 k1) ∧ w.cell? ⟨bb, o + 1, none⟩ = some (.int .i64 n1) ∧ w.cell? ⟨bb, o + 2, none⟩ = some v2
theorem root_num2 {t : Tm} (h : t.rootOk) : 0 ≤ t.num ∧ t.num ≤ 20 := ⟨h.2.1, root_num' h⟩
theorem root_len {t : Tm} (h : t.rootOk) : t.kids.length ≤ 4 := by
 have h1 := h.1
 unfold arity at h1
 split at h1
 ·omega
 ·split at h1
  ·omega
  ·split at h1
   ·omega
   ·split at h1
    ·omega
    ·split at h1 <;> omega
set_option maxRecDepth 100000 in
set_option maxHeartbeats 2000000 in
theorem lshift_any {e : Int} (he0 : -1000 ≤ e) (he1 : e ≤ 1000) : ∀ (l : List Tm) (k n c : Int) (w : World) (s : Value), -1000000 ≤ n → n ≤ 1000000 → 0 ≤ c → c + hgts l ≤ 1000 → l.length ≤ 1000000 → (∀ t ∈ l, t.allOk) → SlIn w 0 l s →
  Calls Tryz.prog 75 #[.agg #[.int .i64 k, .int .i64 n, s], .int .i64 e, .int .i64 c] w (MadePost w ((Tm.mk k n l).shift e c)) := by
 intro l
 induction l using Tm.ind with
 | h l ih =>
 intro k n c w v hn0 hn1 hc0 hc1 hl4 hok hin
 obtain ⟨a, cap, bb, o, rfl, hl, hp, hc⟩ := hin.open
 clear hin
 have HI := tuck ih
 have HP := tuck hp
 have HC := tuck hc
 have HOK := tuck hok
 obtain ⟨N', hN'⟩ : ∃ N', (if k = 1 ∧ c ≤ n then n + e else n) = N' := ⟨_, rfl⟩
 have HCASE : ((k == 1) = true ∧ decide (c ≤ n) = true ∧ N' = n + e) ∨ ((k == 1) = true ∧ decide (c ≤ n) = false ∧ N' = n) ∨ ((k == 1) = false ∧ (n == c) = (n == c) ∧ N' = n) := by
  rw [← hN']
  by_cases h1 : k = 1
  ·by_cases h2 : c ≤ n
   ·exact Or.inl ⟨by simpa using h1, by simpa using h2, by rw [if_pos ⟨h1, h2⟩]⟩
   ·exact Or.inr (Or.inl ⟨by simpa using h1, by simpa using h2, by rw [if_neg (fun h => h2 h.2)]⟩)
  ·exact Or.inr (Or.inr ⟨by simpa using h1, rfl, by rw [if_neg (fun h => h1 h.1)]⟩)
 have HPOST : Hid (∀ w' s F, Below w.heap.size w w' → SlOwn w' (shiftL e k l 0 c) s F → F.Nodup → (∀ g ∈ F, w.heap.size ≤ g ∧ g < w'.heap.size) → MadePost w ((Tm.mk k n l).shift e c) (.returned (.agg #[.int .i64 k, .int .i64 N', s])) w') := fun w' s F a1 a2 a3 a4 => by
  rw [Tm.shift, hN']
  exact ⟨a1, _, rfl, s, F, rfl, a2, a3, a4⟩
 generalize MadePost w ((Tm.mk k n l).shift e c) = post at *
 clear ih hp hc hok hN'
 unfold maxLen at hl
 obtain ⟨g1, g2, hNN⟩ | ⟨g1, g2, hNN⟩ | ⟨g1, -, hNN⟩ := HCASE
 ·rw [hNN] at HPOST
  clear hNN
  go_enter Tryz.func75, Tryz.ntmps75
  go_wp2_with fail
  have HBW0 := tuck (below3 w (.cells #[.int .i64 k, .int .i64 n, .slice a l.length cap] 25) (.cells #[.int .i64 0, .int .i64 0, .slice none 0 0] 25) (.cells #[.int .i64 k, .int .i64 (n + e), .slice none 0 0] 25))
  have HY3 := tuck (((VarAt.new w k n (.slice a l.length cap)).below (below1 _ (.cells #[.int .i64 0, .int .i64 0, .slice none 0 0] 25))).below (below1 _ (.cells #[.int .i64 k, .int .i64 (n + e), .slice none 0 0] 25)))
  have HY6 := tuck ((var_new1 w (.cells #[.int .i64 k, .int .i64 n, .slice a l.length cap] 25) 0 0 (.slice none 0 0)).below (below1 _ (.cells #[.int .i64 k, .int .i64 (n + e), .slice none 0 0] 25)))
  have HY7 := tuck (var_new2 w (.cells #[.int .i64 k, .int .i64 n, .slice a l.length cap] 25) (.cells #[.int .i64 0, .int .i64 0, .slice none 0 0] 25) k (n + e) (.slice none 0 0))
  have hbw0 : Below w.heap.size w (((w.alloc (.cells #[.int .i64 k, .int .i64 n, .slice a l.length cap] 25)).alloc (.cells #[.int .i64 0, .int .i64 0, .slice none 0 0] 25)).alloc (.cells #[.int .i64 k, .int .i64 (n + e), .slice none 0 0] 25)) := HBW0.out
  have hy3 : VarAt w.heap.size k n (.slice a l.length cap) (((w.alloc (.cells #[.int .i64 k, .int .i64 n, .slice a l.length cap] 25)).alloc (.cells #[.int .i64 0, .int .i64 0, .slice none 0 0] 25)).alloc (.cells #[.int .i64 k, .int .i64 (n + e), .slice none 0 0] 25)) := HY3.out
  have hy6 : VarAt (w.heap.size + 1) 0 0 (.slice none 0 0) (((w.alloc (.cells #[.int .i64 k, .int .i64 n, .slice a l.length cap] 25)).alloc (.cells #[.int .i64 0, .int .i64 0, .slice none 0 0] 25)).alloc (.cells #[.int .i64 k, .int .i64 (n + e), .slice none 0 0] 25)) := HY6.out
  have hy7 : VarAt (w.heap.size + 1 + 1) k (n + e) (.slice none 0 0) (((w.alloc (.cells #[.int .i64 k, .int .i64 n, .slice a l.length cap] 25)).alloc (.cells #[.int .i64 0, .int .i64 0, .slice none 0 0] 25)).alloc (.cells #[.int .i64 k, .int .i64 (n + e), .slice none 0 0] 25)) := HY7.out
  clear HBW0 HY3 HY6 HY7
  generalize (((w.alloc (.cells #[.int .i64 k, .int .i64 n, .slice a l.length cap] 25)).alloc (.cells #[.int .i64 0, .int .i64 0, .slice none 0 0] 25)).alloc (.cells #[.int .i64 k, .int .i64 (n + e), .slice none 0 0] 25)) = W0 at *
  have HBW0 := tuck hbw0
  have HY3 := tuck hy3
  have HY6 := tuck hy6
  have HY7 := tuck hy7
  clear hbw0 hy3 hy6 hy7 g1
  try clear g2
  go_loopw [8] (fun i wr => ∃ (q : Nat) (vl : Value) (F : List Nat), q ≤ l.length ∧ i = .int .i64 q ∧ Below w.heap.size w wr ∧ VarAt w.heap.size k n (.slice a l.length cap) wr ∧ VarAt (w.heap.size + 1) 0 0 (.slice none 0 0) wr ∧ VarAt (w.heap.size + 1 + 1) k (n + e) vl wr ∧ RowG (w.heap.size + 1 + 1 + 1) (shiftL e k (l.take q) 0 c) vl F wr) (fun i _ => l.length - (intOf i).toNat)
  case atStart => exact ⟨0, _, [], Nat.zero_le _, rfl, HBW0.out, HY3.out, HY6.out, HY7.out, RowG.nil _ _⟩
  case round =>
   obtain ⟨q, vl, F, hq, rfl, hb, hy3, hy6, hy7, hrg⟩ := hrel
   have HB := tuck hb
   have HY3 := tuck hy3
   have HY6 := tuck hy6
   have HY7 := tuck hy7
   have HRG := tuck hrg
   clear hb hy3 hy6 hy7 hrg HBW0
   have hLq : (shiftL e k (l.take q) 0 c).length = q := by rw [shiftL_length, List.length_take]; omega
   obtain ⟨va, vc, rfl⟩ := HRG.out.form' hLq
   obtain ⟨z3, a0, a1, a2, a3f⟩ := HY3.out.facts
   obtain ⟨z7, c70, c71, c72, c7f⟩ := HY7.out.facts
   by_cases hlt : q < l.length
   ·have hlti : ((q : Int) < (l.length : Int)) := by omega
    have hqi : (0 : Int) ≤ (q : Int) := by omega
    have hh := mem_hgts' hlt
    have hund := under_01 k q
    have HTK := tuck (shiftL_take e k c hlt)
    have hokq : l[q].allOk := HOK.out _ (List.getElem_mem hlt)
    obtain ⟨rfl, _, hbw⟩ := HP.out (by intro e; rw [e] at hlt; simp at hlt)
    obtain ⟨s, c0, c1, c2, hs⟩ := HC.out q hlt
    obtain ⟨sa, sc, rfl⟩ := hs.form
    replace c0 := (HB.out.cell (p := ⟨bb, o + q * 3, none⟩) hbw).trans c0
    replace c1 := (HB.out.cell (p := ⟨bb, o + q * 3 + 1, none⟩) hbw).trans c1
    replace c2 := (HB.out.cell (p := ⟨bb, o + q * 3 + 2, none⟩) hbw).trans c2
    have hbr : bb < wr.heap.size := World.block_lt_of_cell? wr _ c0
    have HS2 := tuck hs
    have HI' := tuck (HI.out q hlt l[q].kind l[q].num)
    rw [Tm.eta] at HI'
    clear hs HI
    generalize l[q] = y at *
    have hyn := root_num2 (y.allOk_iff.1 hokq).1
    have hyl := root_len (y.allOk_iff.1 hokq).1
    have hyk : ∀ t ∈ y.kids, t.allOk := (allsOk_iff _).1 (y.allOk_iff.1 hokq).2
    have hygt := y.hgt_eq
    have HYN := tuck hyn
    have HYL := tuck hyl
    have HYK := tuck hyk
    have HB3 : Hid (bb ≠ w.heap.size + 1 + 1 ∧ some (w.heap.size + 1 + 1) ≠ (Value.slice va q vc).ownBlock ∧ some (w.heap.size) ≠ (Value.slice va q vc).ownBlock ∧ some bb ≠ (Value.slice va q vc).ownBlock ∧ some (w.heap.size + 1) ≠ (Value.slice va q vc).ownBlock) := by
     have hlo := HRG.out.lt
     refine ⟨by omega, fun e => ?_, fun e => ?_, fun e => ?_, fun e => ?_⟩ <;> (have := (hlo _ e.symm).1; omega)
    have hx0 : (g3x wr (w.heap.size) bb (o + q * 3) k (.slice (some ⟨bb, o, none⟩) l.length cap) (.slice sa y.kids.length sc) y.kind y.num) := ⟨⟨z3, hbr⟩, a0, a2, c0, c1, c2⟩
    unfold g3x at hx0
    have HX0 := tuck hx0
    clear hx0
    have hxc : 0 ≤ c + under k q ∧ c + under k q + hgts y.kids ≤ 1000 := by omega
    have HXC := tuck hxc
    have HW1 : IntKind.i64.wrap (c + under k q) = c + under k q := IntWalk.i64_in _ (by omega)
    have HIQ := tuck (fun w' s' (h' : SlIn w' 0 y.kids s') => HI'.out (c + under k q) w' s' (by have := HYN.out; omega) (by have := HYN.out; omega) HXC.out.1 HXC.out.2 (by have := HYL.out; omega) HYK.out h')
    clear HI'
    generalize y.shift e (c + under k q) = T at *
    clear hxc hund hh hygt hokq hyn hyl hyk
    obtain ⟨i0, hi0, hz0, hz1, hz2⟩ := info_parts info_termG
    have hq4 : q + 1 ≤ maxLen := by unfold maxLen; omega
    have hqb : (q + 1) * 40 ≤ 140737488355328 := by omega
    go_wp2_with fail
    have HT12 : ∀ w' : World, (fun w' : World => w'.cell? ⟨w.heap.size + 1 + 1, 2, none⟩ = some (.slice va q vc) ∧ ((w.heap.size < w'.heap.size ∧ bb < w'.heap.size) ∧ w'.cell? ⟨w.heap.size, 0, none⟩ = some (.int .i64 k) ∧ w'.cell? ⟨w.heap.size, 2, none⟩ = some (.slice (some ⟨bb, o, none⟩) l.length cap) ∧ w'.cell? ⟨bb, o + q * 3, none⟩ = some (.int .i64 y.kind) ∧ w'.cell? ⟨bb, o + q * 3 + 1, none⟩ = some (.int .i64 y.num) ∧ w'.cell? ⟨bb, o + q * 3 + 2, none⟩ = some (.slice sa y.kids.length sc))) w' → (fun w' : World => (w.heap.size < w'.heap.size ∧ bb < w'.heap.size) ∧ w'.cell? ⟨w.heap.size, 0, none⟩ = some (.int .i64 k) ∧ w'.cell? ⟨w.heap.size, 2, none⟩ = some (.slice (some ⟨bb, o, none⟩) l.length cap) ∧ w'.cell? ⟨bb, o + q * 3, none⟩ = some (.int .i64 y.kind) ∧ w'.cell? ⟨bb, o + q * 3 + 1, none⟩ = some (.int .i64 y.num) ∧ w'.cell? ⟨bb, o + q * 3 + 2, none⟩ = some (.slice sa y.kids.length sc)) w' := fun w' h => h.2
    refine AnyTwo.begin (fun w' : World => w'.cell? ⟨w.heap.size + 1 + 1, 2, none⟩ = some (.slice va q vc) ∧ ((w.heap.size < w'.heap.size ∧ bb < w'.heap.size) ∧ w'.cell? ⟨w.heap.size, 0, none⟩ = some (.int .i64 k) ∧ w'.cell? ⟨w.heap.size, 2, none⟩ = some (.slice (some ⟨bb, o, none⟩) l.length cap) ∧ w'.cell? ⟨bb, o + q * 3, none⟩ = some (.int .i64 y.kind) ∧ w'.cell? ⟨bb, o + q * 3 + 1, none⟩ = some (.int .i64 y.num) ∧ w'.cell? ⟨bb, o + q * 3 + 2, none⟩ = some (.slice sa y.kids.length sc))) (fun w' : World => (w.heap.size < w'.heap.size ∧ bb < w'.heap.size) ∧ w'.cell? ⟨w.heap.size, 0, none⟩ = some (.int .i64 k) ∧ w'.cell? ⟨w.heap.size, 2, none⟩ = some (.slice (some ⟨bb, o, none⟩) l.length cap) ∧ w'.cell? ⟨bb, o + q * 3, none⟩ = some (.int .i64 y.kind) ∧ w'.cell? ⟨bb, o + q * 3 + 1, none⟩ = some (.int .i64 y.num) ∧ w'.cell? ⟨bb, o + q * 3 + 2, none⟩ = some (.slice sa y.kids.length sc)) 16 (by kernel_rfl) ?_
    have hS1 : (fun w' : World => w'.cell? ⟨w.heap.size + 1 + 1, 2, none⟩ = some (.slice va q vc) ∧ ((w.heap.size < w'.heap.size ∧ bb < w'.heap.size) ∧ w'.cell? ⟨w.heap.size, 0, none⟩ = some (.int .i64 k) ∧ w'.cell? ⟨w.heap.size, 2, none⟩ = some (.slice (some ⟨bb, o, none⟩) l.length cap) ∧ w'.cell? ⟨bb, o + q * 3, none⟩ = some (.int .i64 y.kind) ∧ w'.cell? ⟨bb, o + q * 3 + 1, none⟩ = some (.int .i64 y.num) ∧ w'.cell? ⟨bb, o + q * 3 + 2, none⟩ = some (.slice sa y.kids.length sc))) wr.drew := ⟨c72, HX0.out⟩
    refine AnyTwo.tk HT12 (i := 0) (oi := ⟨some 35, _, _, _, _, _⟩) rfl (ph_one (by kernel_rfl) hS1) ?_
    try simp only [pts]
    refine AnyTwo.take (i := 1) (oi := ⟨some 36, _, _, _, _, _⟩) (v := ?va1) rfl (by kernel_rfl) (by kernel_rfl) (by decide +kernel) (by kernel_rfl) (by rfl) (by kernel_rfl) (fun _ _ _ h => h) (Or.inl ⟨by rfl, ?ya1⟩) hS1 ?ra1
    case ya1 => (intro w hSw; (try dsimp only at hSw); go_simp; try (with_reducible rfl))
    try simp only [pts]
    refine AnyTwo.tk HT12 (i := 2) (oi := ⟨some 37, _, _, _, _, _⟩) rfl (ph_one (by kernel_rfl) hS1) ?_
    try simp only [pts]
    refine AnyTwo.tk HT12 (i := 3) (oi := ⟨some 38, _, _, _, _, _⟩) rfl (ph_one (by kernel_rfl) hS1) ?_
    try simp only [pts]
    refine AnyTwo.tk HT12 (i := 4) (oi := ⟨some 39, _, _, _, _, _⟩) rfl (ph_one (by kernel_rfl) hS1) ?_
    try simp only [pts]
    refine AnyTwo.tk HT12 (i := 5) (oi := ⟨some 40, _, _, _, _, _⟩) rfl (ph_one (by kernel_rfl) hS1) ?_
    try simp only [pts]
    refine AnyTwo.tk HT12 (i := 6) (oi := ⟨some 41, _, _, _, _, _⟩) rfl (ph_one (by kernel_rfl) hS1) ?_
    try simp only [pts]
    refine AnyTwo.tk HT12 (i := 7) (oi := ⟨some 42, _, _, _, _, _⟩) rfl (ph_one (by kernel_rfl) hS1) ?_
    try simp only [pts]
    refine AnyTwo.tk HT12 (i := 8) (oi := ⟨some 43, _, _, _, _, _⟩) rfl (ph_one (by kernel_rfl) hS1) ?_
    try simp only [pts]
    refine AnyTwo.tk HT12 (i := 9) (oi := ⟨some 44, _, _, _, _, _⟩) rfl (ph_one (by kernel_rfl) hS1) ?_
    try simp only [pts]
    refine AnyTwo.tk HT12 (i := 10) (oi := ⟨some 45, _, _, _, _, _⟩) rfl (ph_one (by kernel_rfl) hS1) ?_
    try simp only [pts]
    refine AnyTwo.tk HT12 (i := 11) (oi := ⟨some 46, _, _, _, _, _⟩) rfl (ph_one (by kernel_rfl) hS1) ?_
    try simp only [pts]
    refine AnyTwo.step (i := 12) (o := ⟨some 47, _, _, _, _, _⟩) (by kernel_rfl) rfl (fun K hK => ?_)
    go_simp
    refine (under_any k q _).mono ?_
    rintro e2 w2 ⟨rfl, rfl⟩
    have hS1' := hS1
    refine hK.out _ _ (ph_one (by kernel_rfl) hS1') ?_
    clear hK K hS1
    have hS1 := hS1'
    clear hS1'
    try simp only [pts]
    refine AnyTwo.tk HT12 (i := 13) (oi := ⟨some 48, _, _, _, _, _⟩) rfl (ph_one (by kernel_rfl) hS1) ?_
    try simp only [pts]
    refine AnyTwo.step (i := 14) (o := ⟨some 49, _, _, _, _, _⟩) (by kernel_rfl) rfl (fun K hK => ?_)
    go_simp
    refine (HIQ.out _ _ (HS2.out.below (bAfter HB.out (Below.refl _ _).drew))).mono ?_
    rintro e3 w3 ⟨hb3, tv, rfl, ts, F2, rfl, hs2, hn2, hF2⟩
    obtain ⟨ta, tc, rfl⟩ := hs2.form
    have hbd := bAfter (Below.refl wr.heap.size wr).drew hb3
    have HX3 := tuck (hold2_below HX0.out hbd)
    have HBD := tuck hbd
    have HV7 := tuck (HY7.out.below hbd)
    obtain ⟨z7', d70, d71, d72, d7f⟩ := HV7.out.facts
    have HX4 := tuck (hold2_below HX3.out (below1 w3 (.cells #[.int .i64 T.kind, .int .i64 T.num, .slice ta T.kids.length tc] 25)))
    have HRG4 := tuck ((HRG.out.below hbd).below (below1 w3 (.cells #[.int .i64 T.kind, .int .i64 T.num, .slice ta T.kids.length tc] 25)))
    obtain ⟨xs, hox, hpush⟩ := HRG4.out.grow hLq
    have HOX := tuck hox
    have HPUSH := tuck hpush
    have HS3 := tuck (hs2.alloc (fun g hg => (hF2 g hg).2) (.cells #[.int .i64 T.kind, .int .i64 T.num, .slice ta T.kids.length tc] 25))
    have HN3 := tuck hn2
    have HF3 := tuck hF2
    have d72' := ((below1 w3 (.cells #[.int .i64 T.kind, .int .i64 T.num, .slice ta T.kids.length tc] 25)).cell (p := ⟨w.heap.size + 1 + 1, 2, none⟩) z7').trans d72
    have HZ4 : Hid (w.heap.size + 1 + 1 < (w3.alloc (.cells #[.int .i64 T.kind, .int .i64 T.num, .slice ta T.kids.length tc] 25)).heap.size) := tuck (Nat.lt_of_lt_of_le z7' (below1 w3 _).size)
    clear hox hpush hs2 hn2 hF2 hbd hb3
    have hS1' := And.intro d72 HX3.out
    refine hK.out _ _ (ph_one (by kernel_rfl) hS1') ?_
    clear hK K hS1
    have hS1 := hS1'
    clear hS1'
    try simp only [pts]
    refine AnyTwo.step (i := 15) (o := ⟨some 50, _, _, _, _, _⟩) (by kernel_rfl) rfl (fun K hK => ?_)
    go_simp
    have hS1' := And.intro d72' HX4.out
    refine hK.out _ _ (ph_one (by kernel_rfl) hS1') ?_
    clear hK K hS1
    have hS1 := hS1'
    clear hS1'
    try simp only [pts]
    refine AnyTwo.step (i := 16) (o := ⟨some 51, _, _, _, _, _⟩) (by kernel_rfl) rfl (fun K hK => ?_)
    refine step_append_lies _ (by rfl) _ _ _ (by rfl) (w.heap.size + 1 + 1 + 1) 25 i0 _ 3 40 Tryz.underlying23 hi0 hz0 hz1 hz2 rfl (by omega) _ _ _ (by rfl) HOX.out ⟨w3.heap.size, 0, none⟩ 1 1 [.int .i64 T.kind, .int .i64 T.num, .slice ta T.kids.length tc] (by rfl) (by rfl) (World.news_of_block (cs := #[.int .i64 T.kind, .int .i64 T.num, .slice ta T.kids.length tc]) (t := 25) (fr := (0, 0)) (heap_new w3 _)) (by simp [Value.oneCell']) (by omega) hq4 hqb (by simp; omega) (w3.heap.size + 1) (by simp) ?_
    intro gg gcap w4 hown4 hgrow hat hlt4
    have k70 := (hgrow.cell_far ⟨w.heap.size + 1 + 1, 2, none⟩ HZ4.out HB3.out.2.1).trans d72'
    have k7f := (hgrow.frozen_far ⟨w.heap.size + 1 + 1, 2, none⟩ HZ4.out HB3.out.2.1).trans (((below1 w3 _).frozen (p := ⟨w.heap.size + 1 + 1, 2, none⟩) z7').trans (d7f 2))
    have HX5 := tuck (hold2_grown HX4.out hgrow ⟨HB3.out.2.2.1, HB3.out.2.2.2.1⟩)
    refine hK.out _ _ (ph_end (by kernel_rfl) (HX5.out)) ?_
    clear hK K
    try simp only [pts]
    refine AnyTwo.tk HT12 (i := 17) (oi := ⟨some 52, _, _, _, _, _⟩) rfl (ph_end (by kernel_rfl) HX5.out) ?_
    try simp only [pts]
    refine AnyTwo.step (i := 18) (o := ⟨none, _, _, _, _, _⟩) (by kernel_rfl) rfl (fun K hK => ?_)
    go_simp
    refine hK.out _ _ (ph_end (by kernel_rfl) (hold2_set HX5.out (p := ⟨w.heap.size + 1 + 1, 2, none⟩) (show w.heap.size + 1 + 1 ≠ w.heap.size by omega) (Ne.symm HB3.out.1))) ?_
    clear hK K
    try simp only [pts]
    refine AnyTwo.done (by kernel_rfl) ?_ _
    have HZ3 : Hid (wr.heap.size ≤ w3.heap.size) := HBD.out.size
    clear d70 d71 d72 d7f z7' d72' hS1 HT12 k70 k7f HW1
    go_wp2_with fail
    go_roundw
    case rel =>
     have hz3 := HZ3.out
     have hdr : wr.drew.heap.size = wr.heap.size := rfl
     have hb4 : Below wr.heap.size wr (w3.alloc (.cells #[.int .i64 T.kind, .int .i64 T.num, .slice ta T.kids.length tc] 25)) := bAfter HBD.out (below1 _ _)
     have hlt := HRG.out.lt
     have hflt := HRG.out.flt
     refine ⟨q + 1, .slice (some ⟨gg, 0, none⟩) (q + 1) gcap, F ++ F2, by omega, by go_num, ?_, ?_, ?_, ?_, ?_⟩
     ·exact ((bAfter HB.out hb4).grown hgrow (bAfter HB.out hb4).size (fun g hg => by have := (hlt g hg).1; omega)).setCell (by show w.heap.size ≤ w.heap.size + 1 + 1; omega) _
     ·exact ((HY3.out.below hb4).grown hgrow HB3.out.2.2.1).far (by show w.heap.size ≠ w.heap.size + 1 + 1; omega) _
     ·exact ((HY6.out.below hb4).grown hgrow HB3.out.2.2.2.2).far (by show w.heap.size + 1 ≠ w.heap.size + 1 + 1; omega) _
     ·exact ((HY7.out.below hb4).grown hgrow HB3.out.2.1).set2
     ·rw [HTK.out]
      refine (HPUSH.out _ _ F2 w4 T HS3.out HN3.out (fun g hg => ?_) hown4 hgrow (hat.imp (fun h => h.symm) (fun h => by rw [h]; simp [Value.ownBlock]))).setCell (by show w.heap.size + 1 + 1 < w.heap.size + 1 + 1 + 1; omega) _
      have h1 := HF3.out g hg
      refine ⟨by omega, by simp; omega, fun hf => by have := (hflt g hf).2.1; omega, fun e => by have := (hlt g e).2; omega⟩
    case measure => simp [intOf]; omega
   ·have hge2 : ¬ ((q : Int) < (l.length : Int)) := by omega
    have e : q = l.length := by omega
    subst e
    obtain ⟨z6, c60, c61, c62, c6f⟩ := HY6.out.facts
    obtain ⟨G, hG, hGn, hGb⟩ := HRG.out.done (by rw [hLq]; unfold maxLen; omega)
    rw [List.take_length] at hG
    go_wp2_with fail
    refine bodyPost_ret (v := .agg #[.int .i64 k, .int .i64 ((n + e)), .slice va l.length vc]) (by simp [results, Tryz.results75, go_sem, *]) rfl (HPOST.out _ _ G ?_ ?_ hGn fun g hg => ?_)
    ·exact bSet3 HB.out (by omega) _ _ _ _ _ _
    ·exact hG.set3 (fun h => by have := (hGb _ h).1; omega) _ _ _ _ _ _
    ·rw [size_set3]
     have := hGb g hg
     omega
 ·rw [hNN] at HPOST
  clear hNN
  go_enter Tryz.func75, Tryz.ntmps75
  go_wp2_with fail
  have HBW0 := tuck (below3 w (.cells #[.int .i64 k, .int .i64 n, .slice a l.length cap] 25) (.cells #[.int .i64 0, .int .i64 0, .slice none 0 0] 25) (.cells #[.int .i64 k, .int .i64 (n), .slice none 0 0] 25))
  have HY3 := tuck (((VarAt.new w k n (.slice a l.length cap)).below (below1 _ (.cells #[.int .i64 0, .int .i64 0, .slice none 0 0] 25))).below (below1 _ (.cells #[.int .i64 k, .int .i64 (n), .slice none 0 0] 25)))
  have HY6 := tuck ((var_new1 w (.cells #[.int .i64 k, .int .i64 n, .slice a l.length cap] 25) 0 0 (.slice none 0 0)).below (below1 _ (.cells #[.int .i64 k, .int .i64 (n), .slice none 0 0] 25)))
  have HY7 := tuck (var_new2 w (.cells #[.int .i64 k, .int .i64 n, .slice a l.length cap] 25) (.cells #[.int .i64 0, .int .i64 0, .slice none 0 0] 25) k (n) (.slice none 0 0))
  have hbw0 : Below w.heap.size w (((w.alloc (.cells #[.int .i64 k, .int .i64 n, .slice a l.length cap] 25)).alloc (.cells #[.int .i64 0, .int .i64 0, .slice none 0 0] 25)).alloc (.cells #[.int .i64 k, .int .i64 (n), .slice none 0 0] 25)) := HBW0.out
  have hy3 : VarAt w.heap.size k n (.slice a l.length cap) (((w.alloc (.cells #[.int .i64 k, .int .i64 n, .slice a l.length cap] 25)).alloc (.cells #[.int .i64 0, .int .i64 0, .slice none 0 0] 25)).alloc (.cells #[.int .i64 k, .int .i64 (n), .slice none 0 0] 25)) := HY3.out
  have hy6 : VarAt (w.heap.size + 1) 0 0 (.slice none 0 0) (((w.alloc (.cells #[.int .i64 k, .int .i64 n, .slice a l.length cap] 25)).alloc (.cells #[.int .i64 0, .int .i64 0, .slice none 0 0] 25)).alloc (.cells #[.int .i64 k, .int .i64 (n), .slice none 0 0] 25)) := HY6.out
  have hy7 : VarAt (w.heap.size + 1 + 1) k (n) (.slice none 0 0) (((w.alloc (.cells #[.int .i64 k, .int .i64 n, .slice a l.length cap] 25)).alloc (.cells #[.int .i64 0, .int .i64 0, .slice none 0 0] 25)).alloc (.cells #[.int .i64 k, .int .i64 (n), .slice none 0 0] 25)) := HY7.out
  clear HBW0 HY3 HY6 HY7
  generalize (((w.alloc (.cells #[.int .i64 k, .int .i64 n, .slice a l.length cap] 25)).alloc (.cells #[.int .i64 0, .int .i64 0, .slice none 0 0] 25)).alloc (.cells #[.int .i64 k, .int .i64 (n), .slice none 0 0] 25)) = W0 at *
  have HBW0 := tuck hbw0
  have HY3 := tuck hy3
  have HY6 := tuck hy6
  have HY7 := tuck hy7
  clear hbw0 hy3 hy6 hy7 g1
  try clear g2
  go_loopw [8] (fun i wr => ∃ (q : Nat) (vl : Value) (F : List Nat), q ≤ l.length ∧ i = .int .i64 q ∧ Below w.heap.size w wr ∧ VarAt w.heap.size k n (.slice a l.length cap) wr ∧ VarAt (w.heap.size + 1) 0 0 (.slice none 0 0) wr ∧ VarAt (w.heap.size + 1 + 1) k (n) vl wr ∧ RowG (w.heap.size + 1 + 1 + 1) (shiftL e k (l.take q) 0 c) vl F wr) (fun i _ => l.length - (intOf i).toNat)
  case atStart => exact ⟨0, _, [], Nat.zero_le _, rfl, HBW0.out, HY3.out, HY6.out, HY7.out, RowG.nil _ _⟩
  case round =>
   obtain ⟨q, vl, F, hq, rfl, hb, hy3, hy6, hy7, hrg⟩ := hrel
   have HB := tuck hb
   have HY3 := tuck hy3
   have HY6 := tuck hy6
   have HY7 := tuck hy7
   have HRG := tuck hrg
   clear hb hy3 hy6 hy7 hrg HBW0
   have hLq : (shiftL e k (l.take q) 0 c).length = q := by rw [shiftL_length, List.length_take]; omega
   obtain ⟨va, vc, rfl⟩ := HRG.out.form' hLq
   obtain ⟨z3, a0, a1, a2, a3f⟩ := HY3.out.facts
   obtain ⟨z7, c70, c71, c72, c7f⟩ := HY7.out.facts
   by_cases hlt : q < l.length
   ·have hlti : ((q : Int) < (l.length : Int)) := by omega
    have hqi : (0 : Int) ≤ (q : Int) := by omega
    have hh := mem_hgts' hlt
    have hund := under_01 k q
    have HTK := tuck (shiftL_take e k c hlt)
    have hokq : l[q].allOk := HOK.out _ (List.getElem_mem hlt)
    obtain ⟨rfl, _, hbw⟩ := HP.out (by intro e; rw [e] at hlt; simp at hlt)
    obtain ⟨s, c0, c1, c2, hs⟩ := HC.out q hlt
    obtain ⟨sa, sc, rfl⟩ := hs.form
    replace c0 := (HB.out.cell (p := ⟨bb, o + q * 3, none⟩) hbw).trans c0
    replace c1 := (HB.out.cell (p := ⟨bb, o + q * 3 + 1, none⟩) hbw).trans c1
    replace c2 := (HB.out.cell (p := ⟨bb, o + q * 3 + 2, none⟩) hbw).trans c2
    have hbr : bb < wr.heap.size := World.block_lt_of_cell? wr _ c0
    have HS2 := tuck hs
    have HI' := tuck (HI.out q hlt l[q].kind l[q].num)
    rw [Tm.eta] at HI'
    clear hs HI
    generalize l[q] = y at *
    have hyn := root_num2 (y.allOk_iff.1 hokq).1
    have hyl := root_len (y.allOk_iff.1 hokq).1
    have hyk : ∀ t ∈ y.kids, t.allOk := (allsOk_iff _).1 (y.allOk_iff.1 hokq).2
    have hygt := y.hgt_eq
    have HYN := tuck hyn
    have HYL := tuck hyl
    have HYK := tuck hyk
    have HB3 : Hid (bb ≠ w.heap.size + 1 + 1 ∧ some (w.heap.size + 1 + 1) ≠ (Value.slice va q vc).ownBlock ∧ some (w.heap.size) ≠ (Value.slice va q vc).ownBlock ∧ some bb ≠ (Value.slice va q vc).ownBlock ∧ some (w.heap.size + 1) ≠ (Value.slice va q vc).ownBlock) := by
     have hlo := HRG.out.lt
     refine ⟨by omega, fun e => ?_, fun e => ?_, fun e => ?_, fun e => ?_⟩ <;> (have := (hlo _ e.symm).1; omega)
    have hx0 : (g3x wr (w.heap.size) bb (o + q * 3) k (.slice (some ⟨bb, o, none⟩) l.length cap) (.slice sa y.kids.length sc) y.kind y.num) := ⟨⟨z3, hbr⟩, a0, a2, c0, c1, c2⟩
    unfold g3x at hx0
    have HX0 := tuck hx0
    clear hx0
    have hxc : 0 ≤ c + under k q ∧ c + under k q + hgts y.kids ≤ 1000 := by omega
    have HXC := tuck hxc
    have HW1 : IntKind.i64.wrap (c + under k q) = c + under k q := IntWalk.i64_in _ (by omega)
    have HIQ := tuck (fun w' s' (h' : SlIn w' 0 y.kids s') => HI'.out (c + under k q) w' s' (by have := HYN.out; omega) (by have := HYN.out; omega) HXC.out.1 HXC.out.2 (by have := HYL.out; omega) HYK.out h')
    clear HI'
    generalize y.shift e (c + under k q) = T at *
    clear hxc hund hh hygt hokq hyn hyl hyk
    obtain ⟨i0, hi0, hz0, hz1, hz2⟩ := info_parts info_termG
    have hq4 : q + 1 ≤ maxLen := by unfold maxLen; omega
    have hqb : (q + 1) * 40 ≤ 140737488355328 := by omega
    go_wp2_with fail
    have HT12 : ∀ w' : World, (fun w' : World => w'.cell? ⟨w.heap.size + 1 + 1, 2, none⟩ = some (.slice va q vc) ∧ ((w.heap.size < w'.heap.size ∧ bb < w'.heap.size) ∧ w'.cell? ⟨w.heap.size, 0, none⟩ = some (.int .i64 k) ∧ w'.cell? ⟨w.heap.size, 2, none⟩ = some (.slice (some ⟨bb, o, none⟩) l.length cap) ∧ w'.cell? ⟨bb, o + q * 3, none⟩ = some (.int .i64 y.kind) ∧ w'.cell? ⟨bb, o + q * 3 + 1, none⟩ = some (.int .i64 y.num) ∧ w'.cell? ⟨bb, o + q * 3 + 2, none⟩ = some (.slice sa y.kids.length sc))) w' → (fun w' : World => (w.heap.size < w'.heap.size ∧ bb < w'.heap.size) ∧ w'.cell? ⟨w.heap.size, 0, none⟩ = some (.int .i64 k) ∧ w'.cell? ⟨w.heap.size, 2, none⟩ = some (.slice (some ⟨bb, o, none⟩) l.length cap) ∧ w'.cell? ⟨bb, o + q * 3, none⟩ = some (.int .i64 y.kind) ∧ w'.cell? ⟨bb, o + q * 3 + 1, none⟩ = some (.int .i64 y.num) ∧ w'.cell? ⟨bb, o + q * 3 + 2, none⟩ = some (.slice sa y.kids.length sc)) w' := fun w' h => h.2
    refine AnyTwo.begin (fun w' : World => w'.cell? ⟨w.heap.size + 1 + 1, 2, none⟩ = some (.slice va q vc) ∧ ((w.heap.size < w'.heap.size ∧ bb < w'.heap.size) ∧ w'.cell? ⟨w.heap.size, 0, none⟩ = some (.int .i64 k) ∧ w'.cell? ⟨w.heap.size, 2, none⟩ = some (.slice (some ⟨bb, o, none⟩) l.length cap) ∧ w'.cell? ⟨bb, o + q * 3, none⟩ = some (.int .i64 y.kind) ∧ w'.cell? ⟨bb, o + q * 3 + 1, none⟩ = some (.int .i64 y.num) ∧ w'.cell? ⟨bb, o + q * 3 + 2, none⟩ = some (.slice sa y.kids.length sc))) (fun w' : World => (w.heap.size < w'.heap.size ∧ bb < w'.heap.size) ∧ w'.cell? ⟨w.heap.size, 0, none⟩ = some (.int .i64 k) ∧ w'.cell? ⟨w.heap.size, 2, none⟩ = some (.slice (some ⟨bb, o, none⟩) l.length cap) ∧ w'.cell? ⟨bb, o + q * 3, none⟩ = some (.int .i64 y.kind) ∧ w'.cell? ⟨bb, o + q * 3 + 1, none⟩ = some (.int .i64 y.num) ∧ w'.cell? ⟨bb, o + q * 3 + 2, none⟩ = some (.slice sa y.kids.length sc)) 16 (by kernel_rfl) ?_
    have hS1 : (fun w' : World => w'.cell? ⟨w.heap.size + 1 + 1, 2, none⟩ = some (.slice va q vc) ∧ ((w.heap.size < w'.heap.size ∧ bb < w'.heap.size) ∧ w'.cell? ⟨w.heap.size, 0, none⟩ = some (.int .i64 k) ∧ w'.cell? ⟨w.heap.size, 2, none⟩ = some (.slice (some ⟨bb, o, none⟩) l.length cap) ∧ w'.cell? ⟨bb, o + q * 3, none⟩ = some (.int .i64 y.kind) ∧ w'.cell? ⟨bb, o + q * 3 + 1, none⟩ = some (.int .i64 y.num) ∧ w'.cell? ⟨bb, o + q * 3 + 2, none⟩ = some (.slice sa y.kids.length sc))) wr.drew := ⟨c72, HX0.out⟩
    refine AnyTwo.tk HT12 (i := 0) (oi := ⟨some 35, _, _, _, _, _⟩) rfl (ph_one (by kernel_rfl) hS1) ?_
    try simp only [pts]
    refine AnyTwo.take (i := 1) (oi := ⟨some 36, _, _, _, _, _⟩) (v := ?vb1) rfl (by kernel_rfl) (by kernel_rfl) (by decide +kernel) (by kernel_rfl) (by rfl) (by kernel_rfl) (fun _ _ _ h => h) (Or.inl ⟨by rfl, ?yb1⟩) hS1 ?rb1
    case yb1 => (intro w hSw; (try dsimp only at hSw); go_simp; try (with_reducible rfl))
    try simp only [pts]
    refine AnyTwo.tk HT12 (i := 2) (oi := ⟨some 37, _, _, _, _, _⟩) rfl (ph_one (by kernel_rfl) hS1) ?_
    try simp only [pts]
    refine AnyTwo.tk HT12 (i := 3) (oi := ⟨some 38, _, _, _, _, _⟩) rfl (ph_one (by kernel_rfl) hS1) ?_
    try simp only [pts]
    refine AnyTwo.tk HT12 (i := 4) (oi := ⟨some 39, _, _, _, _, _⟩) rfl (ph_one (by kernel_rfl) hS1) ?_
    try simp only [pts]
    refine AnyTwo.tk HT12 (i := 5) (oi := ⟨some 40, _, _, _, _, _⟩) rfl (ph_one (by kernel_rfl) hS1) ?_
    try simp only [pts]
    refine AnyTwo.tk HT12 (i := 6) (oi := ⟨some 41, _, _, _, _, _⟩) rfl (ph_one (by kernel_rfl) hS1) ?_
    try simp only [pts]
    refine AnyTwo.tk HT12 (i := 7) (oi := ⟨some 42, _, _, _, _, _⟩) rfl (ph_one (by kernel_rfl) hS1) ?_
    try simp only [pts]
    refine AnyTwo.tk HT12 (i := 8) (oi := ⟨some 43, _, _, _, _, _⟩) rfl (ph_one (by kernel_rfl) hS1) ?_
    try simp only [pts]
    refine AnyTwo.tk HT12 (i := 9) (oi := ⟨some 44, _, _, _, _, _⟩) rfl (ph_one (by kernel_rfl) hS1) ?_
    try simp only [pts]
    refine AnyTwo.tk HT12 (i := 10) (oi := ⟨some 45, _, _, _, _, _⟩) rfl (ph_one (by kernel_rfl) hS1) ?_
    try simp only [pts]
    refine AnyTwo.tk HT12 (i := 11) (oi := ⟨some 46, _, _, _, _, _⟩) rfl (ph_one (by kernel_rfl) hS1) ?_
    try simp only [pts]
    refine AnyTwo.step (i := 12) (o := ⟨some 47, _, _, _, _, _⟩) (by kernel_rfl) rfl (fun K hK => ?_)
    go_simp
    refine (under_any k q _).mono ?_
    rintro e2 w2 ⟨rfl, rfl⟩
    have hS1' := hS1
    refine hK.out _ _ (ph_one (by kernel_rfl) hS1') ?_
    clear hK K hS1
    have hS1 := hS1'
    clear hS1'
    try simp only [pts]
    refine AnyTwo.tk HT12 (i := 13) (oi := ⟨some 48, _, _, _, _, _⟩) rfl (ph_one (by kernel_rfl) hS1) ?_
    try simp only [pts]
    refine AnyTwo.step (i := 14) (o := ⟨some 49, _, _, _, _, _⟩) (by kernel_rfl) rfl (fun K hK => ?_)
    go_simp
    refine (HIQ.out _ _ (HS2.out.below (bAfter HB.out (Below.refl _ _).drew))).mono ?_
    rintro e3 w3 ⟨hb3, tv, rfl, ts, F2, rfl, hs2, hn2, hF2⟩
    obtain ⟨ta, tc, rfl⟩ := hs2.form
    have hbd := bAfter (Below.refl wr.heap.size wr).drew hb3
    have HX3 := tuck (hold2_below HX0.out hbd)
    have HBD := tuck hbd
    have HV7 := tuck (HY7.out.below hbd)
    obtain ⟨z7', d70, d71, d72, d7f⟩ := HV7.out.facts
    have HX4 := tuck (hold2_below HX3.out (below1 w3 (.cells #[.int .i64 T.kind, .int .i64 T.num, .slice ta T.kids.length tc] 25)))
    have HRG4 := tuck ((HRG.out.below hbd).below (below1 w3 (.cells #[.int .i64 T.kind, .int .i64 T.num, .slice ta T.kids.length tc] 25)))
    obtain ⟨xs, hox, hpush⟩ := HRG4.out.grow hLq
    have HOX := tuck hox
    have HPUSH := tuck hpush
    have HS3 := tuck (hs2.alloc (fun g hg => (hF2 g hg).2) (.cells #[.int .i64 T.kind, .int .i64 T.num, .slice ta T.kids.length tc] 25))
    have HN3 := tuck hn2
    have HF3 := tuck hF2
    have d72' := ((below1 w3 (.cells #[.int .i64 T.kind, .int .i64 T.num, .slice ta T.kids.length tc] 25)).cell (p := ⟨w.heap.size + 1 + 1, 2, none⟩) z7').trans d72
    have HZ4 : Hid (w.heap.size + 1 + 1 < (w3.alloc (.cells #[.int .i64 T.kind, .int .i64 T.num, .slice ta T.kids.length tc] 25)).heap.size) := tuck (Nat.lt_of_lt_of_le z7' (below1 w3 _).size)
    clear hox hpush hs2 hn2 hF2 hbd hb3
    have hS1' := And.intro d72 HX3.out
    refine hK.out _ _ (ph_one (by kernel_rfl) hS1') ?_
    clear hK K hS1
    have hS1 := hS1'
    clear hS1'
    try simp only [pts]
    refine AnyTwo.step (i := 15) (o := ⟨some 50, _, _, _, _, _⟩) (by kernel_rfl) rfl (fun K hK => ?_)
    go_simp
    have hS1' := And.intro d72' HX4.out
    refine hK.out _ _ (ph_one (by kernel_rfl) hS1') ?_
    clear hK K hS1
    have hS1 := hS1'
    clear hS1'
    try simp only [pts]
    refine AnyTwo.step (i := 16) (o := ⟨some 51, _, _, _, _, _⟩) (by kernel_rfl) rfl (fun K hK => ?_)
    refine step_append_lies _ (by rfl) _ _ _ (by rfl) (w.heap.size + 1 + 1 + 1) 25 i0 _ 3 40 Tryz.underlying23 hi0 hz0 hz1 hz2 rfl (by omega) _ _ _ (by rfl) HOX.out ⟨w3.heap.size, 0, none⟩ 1 1 [.int .i64 T.kind, .int .i64 T.num, .slice ta T.kids.length tc] (by rfl) (by rfl) (World.news_of_block (cs := #[.int .i64 T.kind, .int .i64 T.num, .slice ta T.kids.length tc]) (t := 25) (fr := (0, 0)) (heap_new w3 _)) (by simp [Value.oneCell']) (by omega) hq4 hqb (by simp; omega) (w3.heap.size + 1) (by simp) ?_
    intro gg gcap w4 hown4 hgrow hat hlt4
    have k70 := (hgrow.cell_far ⟨w.heap.size + 1 + 1, 2, none⟩ HZ4.out HB3.out.2.1).trans d72'
    have k7f := (hgrow.frozen_far ⟨w.heap.size + 1 + 1, 2, none⟩ HZ4.out HB3.out.2.1).trans (((below1 w3 _).frozen (p := ⟨w.heap.size + 1 + 1, 2, none⟩) z7').trans (d7f 2))
    have HX5 := tuck (hold2_grown HX4.out hgrow ⟨HB3.out.2.2.1, HB3.out.2.2.2.1⟩)
    refine hK.out _ _ (ph_end (by kernel_rfl) (HX5.out)) ?_
    clear hK K
    try simp only [pts]
    refine AnyTwo.tk HT12 (i := 17) (oi := ⟨some 52, _, _, _, _, _⟩) rfl (ph_end (by kernel_rfl) HX5.out) ?_
    try simp only [pts]
    refine AnyTwo.step (i := 18) (o := ⟨none, _, _, _, _, _⟩) (by kernel_rfl) rfl (fun K hK => ?_)
    go_simp
    refine hK.out _ _ (ph_end (by kernel_rfl) (hold2_set HX5.out (p := ⟨w.heap.size + 1 + 1, 2, none⟩) (show w.heap.size + 1 + 1 ≠ w.heap.size by omega) (Ne.symm HB3.out.1))) ?_
    clear hK K
    try simp only [pts]
    refine AnyTwo.done (by kernel_rfl) ?_ _
    have HZ3 : Hid (wr.heap.size ≤ w3.heap.size) := HBD.out.size
    clear d70 d71 d72 d7f z7' d72' hS1 HT12 k70 k7f HW1
    go_wp2_with fail
    go_roundw
    case rel =>
     have hz3 := HZ3.out
     have hdr : wr.drew.heap.size = wr.heap.size := rfl
     have hb4 : Below wr.heap.size wr (w3.alloc (.cells #[.int .i64 T.kind, .int .i64 T.num, .slice ta T.kids.length tc] 25)) := bAfter HBD.out (below1 _ _)
     have hlt := HRG.out.lt
     have hflt := HRG.out.flt
     refine ⟨q + 1, .slice (some ⟨gg, 0, none⟩) (q + 1) gcap, F ++ F2, by omega, by go_num, ?_, ?_, ?_, ?_, ?_⟩
     ·exact ((bAfter HB.out hb4).grown hgrow (bAfter HB.out hb4).size (fun g hg => by have := (hlt g hg).1; omega)).setCell (by show w.heap.size ≤ w.heap.size + 1 + 1; omega) _
     ·exact ((HY3.out.below hb4).grown hgrow HB3.out.2.2.1).far (by show w.heap.size ≠ w.heap.size + 1 + 1; omega) _
     ·exact ((HY6.out.below hb4).grown hgrow HB3.out.2.2.2.2).far (by show w.heap.size + 1 ≠ w.heap.size + 1 + 1; omega) _
     ·exact ((HY7.out.below hb4).grown hgrow HB3.out.2.1).set2
     ·rw [HTK.out]
      refine (HPUSH.out _ _ F2 w4 T HS3.out HN3.out (fun g hg => ?_) hown4 hgrow (hat.imp (fun h => h.symm) (fun h => by rw [h]; simp [Value.ownBlock]))).setCell (by show w.heap.size + 1 + 1 < w.heap.size + 1 + 1 + 1; omega) _
      have h1 := HF3.out g hg
      refine ⟨by omega, by simp; omega, fun hf => by have := (hflt g hf).2.1; omega, fun e => by have := (hlt g e).2; omega⟩
    case measure => simp [intOf]; omega
   ·have hge2 : ¬ ((q : Int) < (l.length : Int)) := by omega
    have e : q = l.length := by omega
    subst e
    obtain ⟨z6, c60, c61, c62, c6f⟩ := HY6.out.facts
    obtain ⟨G, hG, hGn, hGb⟩ := HRG.out.done (by rw [hLq]; unfold maxLen; omega)
    rw [List.take_length] at hG
    go_wp2_with fail
    refine bodyPost_ret (v := .agg #[.int .i64 k, .int .i64 ((n)), .slice va l.length vc]) (by simp [results, Tryz.results75, go_sem, *]) rfl (HPOST.out _ _ G ?_ ?_ hGn fun g hg => ?_)
    ·exact bSet3 HB.out (by omega) _ _ _ _ _ _
    ·exact hG.set3 (fun h => by have := (hGb _ h).1; omega) _ _ _ _ _ _
    ·rw [size_set3]
     have := hGb g hg
     omega
 ·rw [hNN] at HPOST
  clear hNN
  go_enter Tryz.func75, Tryz.ntmps75
  go_wp2_with fail
  have HBW0 := tuck (below3 w (.cells #[.int .i64 k, .int .i64 n, .slice a l.length cap] 25) (.cells #[.int .i64 0, .int .i64 0, .slice none 0 0] 25) (.cells #[.int .i64 k, .int .i64 (n), .slice none 0 0] 25))
  have HY3 := tuck (((VarAt.new w k n (.slice a l.length cap)).below (below1 _ (.cells #[.int .i64 0, .int .i64 0, .slice none 0 0] 25))).below (below1 _ (.cells #[.int .i64 k, .int .i64 (n), .slice none 0 0] 25)))
  have HY6 := tuck ((var_new1 w (.cells #[.int .i64 k, .int .i64 n, .slice a l.length cap] 25) 0 0 (.slice none 0 0)).below (below1 _ (.cells #[.int .i64 k, .int .i64 (n), .slice none 0 0] 25)))
  have HY7 := tuck (var_new2 w (.cells #[.int .i64 k, .int .i64 n, .slice a l.length cap] 25) (.cells #[.int .i64 0, .int .i64 0, .slice none 0 0] 25) k (n) (.slice none 0 0))
  have hbw0 : Below w.heap.size w (((w.alloc (.cells #[.int .i64 k, .int .i64 n, .slice a l.length cap] 25)).alloc (.cells #[.int .i64 0, .int .i64 0, .slice none 0 0] 25)).alloc (.cells #[.int .i64 k, .int .i64 (n), .slice none 0 0] 25)) := HBW0.out
  have hy3 : VarAt w.heap.size k n (.slice a l.length cap) (((w.alloc (.cells #[.int .i64 k, .int .i64 n, .slice a l.length cap] 25)).alloc (.cells #[.int .i64 0, .int .i64 0, .slice none 0 0] 25)).alloc (.cells #[.int .i64 k, .int .i64 (n), .slice none 0 0] 25)) := HY3.out
  have hy6 : VarAt (w.heap.size + 1) 0 0 (.slice none 0 0) (((w.alloc (.cells #[.int .i64 k, .int .i64 n, .slice a l.length cap] 25)).alloc (.cells #[.int .i64 0, .int .i64 0, .slice none 0 0] 25)).alloc (.cells #[.int .i64 k, .int .i64 (n), .slice none 0 0] 25)) := HY6.out
  have hy7 : VarAt (w.heap.size + 1 + 1) k (n) (.slice none 0 0) (((w.alloc (.cells #[.int .i64 k, .int .i64 n, .slice a l.length cap] 25)).alloc (.cells #[.int .i64 0, .int .i64 0, .slice none 0 0] 25)).alloc (.cells #[.int .i64 k, .int .i64 (n), .slice none 0 0] 25)) := HY7.out
  clear HBW0 HY3 HY6 HY7
  generalize (((w.alloc (.cells #[.int .i64 k, .int .i64 n, .slice a l.length cap] 25)).alloc (.cells #[.int .i64 0, .int .i64 0, .slice none 0 0] 25)).alloc (.cells #[.int .i64 k, .int .i64 (n), .slice none 0 0] 25)) = W0 at *
  have HBW0 := tuck hbw0
  have HY3 := tuck hy3
  have HY6 := tuck hy6
  have HY7 := tuck hy7
  clear hbw0 hy3 hy6 hy7 g1
  try clear g2
  go_loopw [8] (fun i wr => ∃ (q : Nat) (vl : Value) (F : List Nat), q ≤ l.length ∧ i = .int .i64 q ∧ Below w.heap.size w wr ∧ VarAt w.heap.size k n (.slice a l.length cap) wr ∧ VarAt (w.heap.size + 1) 0 0 (.slice none 0 0) wr ∧ VarAt (w.heap.size + 1 + 1) k (n) vl wr ∧ RowG (w.heap.size + 1 + 1 + 1) (shiftL e k (l.take q) 0 c) vl F wr) (fun i _ => l.length - (intOf i).toNat)
  case atStart => exact ⟨0, _, [], Nat.zero_le _, rfl, HBW0.out, HY3.out, HY6.out, HY7.out, RowG.nil _ _⟩
  case round =>
   obtain ⟨q, vl, F, hq, rfl, hb, hy3, hy6, hy7, hrg⟩ := hrel
   have HB := tuck hb
   have HY3 := tuck hy3
   have HY6 := tuck hy6
   have HY7 := tuck hy7
   have HRG := tuck hrg
   clear hb hy3 hy6 hy7 hrg HBW0
   have hLq : (shiftL e k (l.take q) 0 c).length = q := by rw [shiftL_length, List.length_take]; omega
   obtain ⟨va, vc, rfl⟩ := HRG.out.form' hLq
   obtain ⟨z3, a0, a1, a2, a3f⟩ := HY3.out.facts
   obtain ⟨z7, c70, c71, c72, c7f⟩ := HY7.out.facts
   by_cases hlt : q < l.length
   ·have hlti : ((q : Int) < (l.length : Int)) := by omega
    have hqi : (0 : Int) ≤ (q : Int) := by omega
    have hh := mem_hgts' hlt
    have hund := under_01 k q
    have HTK := tuck (shiftL_take e k c hlt)
    have hokq : l[q].allOk := HOK.out _ (List.getElem_mem hlt)
    obtain ⟨rfl, _, hbw⟩ := HP.out (by intro e; rw [e] at hlt; simp at hlt)
    obtain ⟨s, c0, c1, c2, hs⟩ := HC.out q hlt
    obtain ⟨sa, sc, rfl⟩ := hs.form
    replace c0 := (HB.out.cell (p := ⟨bb, o + q * 3, none⟩) hbw).trans c0
    replace c1 := (HB.out.cell (p := ⟨bb, o + q * 3 + 1, none⟩) hbw).trans c1
    replace c2 := (HB.out.cell (p := ⟨bb, o + q * 3 + 2, none⟩) hbw).trans c2
    have hbr : bb < wr.heap.size := World.block_lt_of_cell? wr _ c0
    have HS2 := tuck hs
    have HI' := tuck (HI.out q hlt l[q].kind l[q].num)
    rw [Tm.eta] at HI'
    clear hs HI
    generalize l[q] = y at *
    have hyn := root_num2 (y.allOk_iff.1 hokq).1
    have hyl := root_len (y.allOk_iff.1 hokq).1
    have hyk : ∀ t ∈ y.kids, t.allOk := (allsOk_iff _).1 (y.allOk_iff.1 hokq).2
    have hygt := y.hgt_eq
    have HYN := tuck hyn
    have HYL := tuck hyl
    have HYK := tuck hyk
    have HB3 : Hid (bb ≠ w.heap.size + 1 + 1 ∧ some (w.heap.size + 1 + 1) ≠ (Value.slice va q vc).ownBlock ∧ some (w.heap.size) ≠ (Value.slice va q vc).ownBlock ∧ some bb ≠ (Value.slice va q vc).ownBlock ∧ some (w.heap.size + 1) ≠ (Value.slice va q vc).ownBlock) := by
     have hlo := HRG.out.lt
     refine ⟨by omega, fun e => ?_, fun e => ?_, fun e => ?_, fun e => ?_⟩ <;> (have := (hlo _ e.symm).1; omega)
    have hx0 : (g3x wr (w.heap.size) bb (o + q * 3) k (.slice (some ⟨bb, o, none⟩) l.length cap) (.slice sa y.kids.length sc) y.kind y.num) := ⟨⟨z3, hbr⟩, a0, a2, c0, c1, c2⟩
    unfold g3x at hx0
    have HX0 := tuck hx0
    clear hx0
    have hxc : 0 ≤ c + under k q ∧ c + under k q + hgts y.kids ≤ 1000 := by omega
    have HXC := tuck hxc
    have HW1 : IntKind.i64.wrap (c + under k q) = c + under k q := IntWalk.i64_in _ (by omega)
    have HIQ := tuck (fun w' s' (h' : SlIn w' 0 y.kids s') => HI'.out (c + under k q) w' s' (by have := HYN.out; omega) (by have := HYN.out; omega) HXC.out.1 HXC.out.2 (by have := HYL.out; omega) HYK.out h')
    clear HI'
    generalize y.shift e (c + under k q) = T at *
    clear hxc hund hh hygt hokq hyn hyl hyk
    obtain ⟨i0, hi0, hz0, hz1, hz2⟩ := info_parts info_termG
    have hq4 : q + 1 ≤ maxLen := by unfold maxLen; omega
    have hqb : (q + 1) * 40 ≤ 140737488355328 := by omega
    go_wp2_with fail
    have HT12 : ∀ w' : World, (fun w' : World => w'.cell? ⟨w.heap.size + 1 + 1, 2, none⟩ = some (.slice va q vc) ∧ ((w.heap.size < w'.heap.size ∧ bb < w'.heap.size) ∧ w'.cell? ⟨w.heap.size, 0, none⟩ = some (.int .i64 k) ∧ w'.cell? ⟨w.heap.size, 2, none⟩ = some (.slice (some ⟨bb, o, none⟩) l.length cap) ∧ w'.cell? ⟨bb, o + q * 3, none⟩ = some (.int .i64 y.kind) ∧ w'.cell? ⟨bb, o + q * 3 + 1, none⟩ = some (.int .i64 y.num) ∧ w'.cell? ⟨bb, o + q * 3 + 2, none⟩ = some (.slice sa y.kids.length sc))) w' → (fun w' : World => (w.heap.size < w'.heap.size ∧ bb < w'.heap.size) ∧ w'.cell? ⟨w.heap.size, 0, none⟩ = some (.int .i64 k) ∧ w'.cell? ⟨w.heap.size, 2, none⟩ = some (.slice (some ⟨bb, o, none⟩) l.length cap) ∧ w'.cell? ⟨bb, o + q * 3, none⟩ = some (.int .i64 y.kind) ∧ w'.cell? ⟨bb, o + q * 3 + 1, none⟩ = some (.int .i64 y.num) ∧ w'.cell? ⟨bb, o + q * 3 + 2, none⟩ = some (.slice sa y.kids.length sc)) w' := fun w' h => h.2
    refine AnyTwo.begin (fun w' : World => w'.cell? ⟨w.heap.size + 1 + 1, 2, none⟩ = some (.slice va q vc) ∧ ((w.heap.size < w'.heap.size ∧ bb < w'.heap.size) ∧ w'.cell? ⟨w.heap.size, 0, none⟩ = some (.int .i64 k) ∧ w'.cell? ⟨w.heap.size, 2, none⟩ = some (.slice (some ⟨bb, o, none⟩) l.length cap) ∧ w'.cell? ⟨bb, o + q * 3, none⟩ = some (.int .i64 y.kind) ∧ w'.cell? ⟨bb, o + q * 3 + 1, none⟩ = some (.int .i64 y.num) ∧ w'.cell? ⟨bb, o + q * 3 + 2, none⟩ = some (.slice sa y.kids.length sc))) (fun w' : World => (w.heap.size < w'.heap.size ∧ bb < w'.heap.size) ∧ w'.cell? ⟨w.heap.size, 0, none⟩ = some (.int .i64 k) ∧ w'.cell? ⟨w.heap.size, 2, none⟩ = some (.slice (some ⟨bb, o, none⟩) l.length cap) ∧ w'.cell? ⟨bb, o + q * 3, none⟩ = some (.int .i64 y.kind) ∧ w'.cell? ⟨bb, o + q * 3 + 1, none⟩ = some (.int .i64 y.num) ∧ w'.cell? ⟨bb, o + q * 3 + 2, none⟩ = some (.slice sa y.kids.length sc)) 16 (by kernel_rfl) ?_
    have hS1 : (fun w' : World => w'.cell? ⟨w.heap.size + 1 + 1, 2, none⟩ = some (.slice va q vc) ∧ ((w.heap.size < w'.heap.size ∧ bb < w'.heap.size) ∧ w'.cell? ⟨w.heap.size, 0, none⟩ = some (.int .i64 k) ∧ w'.cell? ⟨w.heap.size, 2, none⟩ = some (.slice (some ⟨bb, o, none⟩) l.length cap) ∧ w'.cell? ⟨bb, o + q * 3, none⟩ = some (.int .i64 y.kind) ∧ w'.cell? ⟨bb, o + q * 3 + 1, none⟩ = some (.int .i64 y.num) ∧ w'.cell? ⟨bb, o + q * 3 + 2, none⟩ = some (.slice sa y.kids.length sc))) wr.drew := ⟨c72, HX0.out⟩
    refine AnyTwo.tk HT12 (i := 0) (oi := ⟨some 35, _, _, _, _, _⟩) rfl (ph_one (by kernel_rfl) hS1) ?_
    try simp only [pts]
    refine AnyTwo.take (i := 1) (oi := ⟨some 36, _, _, _, _, _⟩) (v := ?vc1) rfl (by kernel_rfl) (by kernel_rfl) (by decide +kernel) (by kernel_rfl) (by rfl) (by kernel_rfl) (fun _ _ _ h => h) (Or.inl ⟨by rfl, ?yc1⟩) hS1 ?rc1
    case yc1 => (intro w hSw; (try dsimp only at hSw); go_simp; try (with_reducible rfl))
    try simp only [pts]
    refine AnyTwo.tk HT12 (i := 2) (oi := ⟨some 37, _, _, _, _, _⟩) rfl (ph_one (by kernel_rfl) hS1) ?_
    try simp only [pts]
    refine AnyTwo.tk HT12 (i := 3) (oi := ⟨some 38, _, _, _, _, _⟩) rfl (ph_one (by kernel_rfl) hS1) ?_
    try simp only [pts]
    refine AnyTwo.tk HT12 (i := 4) (oi := ⟨some 39, _, _, _, _, _⟩) rfl (ph_one (by kernel_rfl) hS1) ?_
    try simp only [pts]
    refine AnyTwo.tk HT12 (i := 5) (oi := ⟨some 40, _, _, _, _, _⟩) rfl (ph_one (by kernel_rfl) hS1) ?_
    try simp only [pts]
    refine AnyTwo.tk HT12 (i := 6) (oi := ⟨some 41, _, _, _, _, _⟩) rfl (ph_one (by kernel_rfl) hS1) ?_
    try simp only [pts]
    refine AnyTwo.tk HT12 (i := 7) (oi := ⟨some 42, _, _, _, _, _⟩) rfl (ph_one (by kernel_rfl) hS1) ?_
    try simp only [pts]
    refine AnyTwo.tk HT12 (i := 8) (oi := ⟨some 43, _, _, _, _, _⟩) rfl (ph_one (by kernel_rfl) hS1) ?_
    try simp only [pts]
    refine AnyTwo.tk HT12 (i := 9) (oi := ⟨some 44, _, _, _, _, _⟩) rfl (ph_one (by kernel_rfl) hS1) ?_
    try simp only [pts]
    refine AnyTwo.tk HT12 (i := 10) (oi := ⟨some 45, _, _, _, _, _⟩) rfl (ph_one (by kernel_rfl) hS1) ?_
    try simp only [pts]
    refine AnyTwo.tk HT12 (i := 11) (oi := ⟨some 46, _, _, _, _, _⟩) rfl (ph_one (by kernel_rfl) hS1) ?_
    try simp only [pts]
    refine AnyTwo.step (i := 12) (o := ⟨some 47, _, _, _, _, _⟩) (by kernel_rfl) rfl (fun K hK => ?_)
    go_simp
    refine (under_any k q _).mono ?_
    rintro e2 w2 ⟨rfl, rfl⟩
    have hS1' := hS1
    refine hK.out _ _ (ph_one (by kernel_rfl) hS1') ?_
    clear hK K hS1
    have hS1 := hS1'
    clear hS1'
    try simp only [pts]
    refine AnyTwo.tk HT12 (i := 13) (oi := ⟨some 48, _, _, _, _, _⟩) rfl (ph_one (by kernel_rfl) hS1) ?_
    try simp only [pts]
    refine AnyTwo.step (i := 14) (o := ⟨some 49, _, _, _, _, _⟩) (by kernel_rfl) rfl (fun K hK => ?_)
    go_simp
    refine (HIQ.out _ _ (HS2.out.below (bAfter HB.out (Below.refl _ _).drew))).mono ?_
    rintro e3 w3 ⟨hb3, tv, rfl, ts, F2, rfl, hs2, hn2, hF2⟩
    obtain ⟨ta, tc, rfl⟩ := hs2.form
    have hbd := bAfter (Below.refl wr.heap.size wr).drew hb3
    have HX3 := tuck (hold2_below HX0.out hbd)
    have HBD := tuck hbd
    have HV7 := tuck (HY7.out.below hbd)
    obtain ⟨z7', d70, d71, d72, d7f⟩ := HV7.out.facts
    have HX4 := tuck (hold2_below HX3.out (below1 w3 (.cells #[.int .i64 T.kind, .int .i64 T.num, .slice ta T.kids.length tc] 25)))
    have HRG4 := tuck ((HRG.out.below hbd).below (below1 w3 (.cells #[.int .i64 T.kind, .int .i64 T.num, .slice ta T.kids.length tc] 25)))
    obtain ⟨xs, hox, hpush⟩ := HRG4.out.grow hLq
    have HOX := tuck hox
    have HPUSH := tuck hpush
    have HS3 := tuck (hs2.alloc (fun g hg => (hF2 g hg).2) (.cells #[.int .i64 T.kind, .int .i64 T.num, .slice ta T.kids.length tc] 25))
    have HN3 := tuck hn2
    have HF3 := tuck hF2
    have d72' := ((below1 w3 (.cells #[.int .i64 T.kind, .int .i64 T.num, .slice ta T.kids.length tc] 25)).cell (p := ⟨w.heap.size + 1 + 1, 2, none⟩) z7').trans d72
    have HZ4 : Hid (w.heap.size + 1 + 1 < (w3.alloc (.cells #[.int .i64 T.kind, .int .i64 T.num, .slice ta T.kids.length tc] 25)).heap.size) := tuck (Nat.lt_of_lt_of_le z7' (below1 w3 _).size)
    clear hox hpush hs2 hn2 hF2 hbd hb3
    have hS1' := And.intro d72 HX3.out
    refine hK.out _ _ (ph_one (by kernel_rfl) hS1') ?_
    clear hK K hS1
    have hS1 := hS1'
    clear hS1'
    try simp only [pts]
    refine AnyTwo.step (i := 15) (o := ⟨some 50, _, _, _, _, _⟩) (by kernel_rfl) rfl (fun K hK => ?_)
    go_simp
    have hS1' := And.intro d72' HX4.out
    refine hK.out _ _ (ph_one (by kernel_rfl) hS1') ?_
    clear hK K hS1
    have hS1 := hS1'
    clear hS1'
    try simp only [pts]
    refine AnyTwo.step (i := 16) (o := ⟨some 51, _, _, _, _, _⟩) (by kernel_rfl) rfl (fun K hK => ?_)
    refine step_append_lies _ (by rfl) _ _ _ (by rfl) (w.heap.size + 1 + 1 + 1) 25 i0 _ 3 40 Tryz.underlying23 hi0 hz0 hz1 hz2 rfl (by omega) _ _ _ (by rfl) HOX.out ⟨w3.heap.size, 0, none⟩ 1 1 [.int .i64 T.kind, .int .i64 T.num, .slice ta T.kids.length tc] (by rfl) (by rfl) (World.news_of_block (cs := #[.int .i64 T.kind, .int .i64 T.num, .slice ta T.kids.length tc]) (t := 25) (fr := (0, 0)) (heap_new w3 _)) (by simp [Value.oneCell']) (by omega) hq4 hqb (by simp; omega) (w3.heap.size + 1) (by simp) ?_
    intro gg gcap w4 hown4 hgrow hat hlt4
    have k70 := (hgrow.cell_far ⟨w.heap.size + 1 + 1, 2, none⟩ HZ4.out HB3.out.2.1).trans d72'
    have k7f := (hgrow.frozen_far ⟨w.heap.size + 1 + 1, 2, none⟩ HZ4.out HB3.out.2.1).trans (((below1 w3 _).frozen (p := ⟨w.heap.size + 1 + 1, 2, none⟩) z7').trans (d7f 2))
    have HX5 := tuck (hold2_grown HX4.out hgrow ⟨HB3.out.2.2.1, HB3.out.2.2.2.1⟩)
    refine hK.out _ _ (ph_end (by kernel_rfl) (HX5.out)) ?_
    clear hK K
    try simp only [pts]
    refine AnyTwo.tk HT12 (i := 17) (oi := ⟨some 52, _, _, _, _, _⟩) rfl (ph_end (by kernel_rfl) HX5.out) ?_
    try simp only [pts]
    refine AnyTwo.step (i := 18) (o := ⟨none, _, _, _, _, _⟩) (by kernel_rfl) rfl (fun K hK => ?_)
    go_simp
    refine hK.out _ _ (ph_end (by kernel_rfl) (hold2_set HX5.out (p := ⟨w.heap.size + 1 + 1, 2, none⟩) (show w.heap.size + 1 + 1 ≠ w.heap.size by omega) (Ne.symm HB3.out.1))) ?_
    clear hK K
    try simp only [pts]
    refine AnyTwo.done (by kernel_rfl) ?_ _
    have HZ3 : Hid (wr.heap.size ≤ w3.heap.size) := HBD.out.size
    clear d70 d71 d72 d7f z7' d72' hS1 HT12 k70 k7f HW1
    go_wp2_with fail
    go_roundw
    case rel =>
     have hz3 := HZ3.out
     have hdr : wr.drew.heap.size = wr.heap.size := rfl
     have hb4 : Below wr.heap.size wr (w3.alloc (.cells #[.int .i64 T.kind, .int .i64 T.num, .slice ta T.kids.length tc] 25)) := bAfter HBD.out (below1 _ _)
     have hlt := HRG.out.lt
     have hflt := HRG.out.flt
     refine ⟨q + 1, .slice (some ⟨gg, 0, none⟩) (q + 1) gcap, F ++ F2, by omega, by go_num, ?_, ?_, ?_, ?_, ?_⟩
     ·exact ((bAfter HB.out hb4).grown hgrow (bAfter HB.out hb4).size (fun g hg => by have := (hlt g hg).1; omega)).setCell (by show w.heap.size ≤ w.heap.size + 1 + 1; omega) _
     ·exact ((HY3.out.below hb4).grown hgrow HB3.out.2.2.1).far (by show w.heap.size ≠ w.heap.size + 1 + 1; omega) _
     ·exact ((HY6.out.below hb4).grown hgrow HB3.out.2.2.2.2).far (by show w.heap.size + 1 ≠ w.heap.size + 1 + 1; omega) _
     ·exact ((HY7.out.below hb4).grown hgrow HB3.out.2.1).set2
     ·rw [HTK.out]
      refine (HPUSH.out _ _ F2 w4 T HS3.out HN3.out (fun g hg => ?_) hown4 hgrow (hat.imp (fun h => h.symm) (fun h => by rw [h]; simp [Value.ownBlock]))).setCell (by show w.heap.size + 1 + 1 < w.heap.size + 1 + 1 + 1; omega) _
      have h1 := HF3.out g hg
      refine ⟨by omega, by simp; omega, fun hf => by have := (hflt g hf).2.1; omega, fun e => by have := (hlt g e).2; omega⟩
    case measure => simp [intOf]; omega
   ·have hge2 : ¬ ((q : Int) < (l.length : Int)) := by omega
    have e : q = l.length := by omega
    subst e
    obtain ⟨z6, c60, c61, c62, c6f⟩ := HY6.out.facts
    obtain ⟨G, hG, hGn, hGb⟩ := HRG.out.done (by rw [hLq]; unfold maxLen; omega)
    rw [List.take_length] at hG
    go_wp2_with fail
    refine bodyPost_ret (v := .agg #[.int .i64 k, .int .i64 ((n)), .slice va l.length vc]) (by simp [results, Tryz.results75, go_sem, *]) rfl (HPOST.out _ _ G ?_ ?_ hGn fun g hg => ?_)
    ·exact bSet3 HB.out (by omega) _ _ _ _ _ _
    ·exact hG.set3 (fun h => by have := (hGb _ h).1; omega) _ _ _ _ _ _
    ·rw [size_set3]
     have := hGb g hg
     omega
end Go.Proofs.YtlbikgnanabjgaaGreat
