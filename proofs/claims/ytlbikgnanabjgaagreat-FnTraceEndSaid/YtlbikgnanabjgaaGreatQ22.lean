/-
  SpecW.
-/
import Derived.Test.YtlbikgnanabjgaaGreatQ13
import Derived.Test.YtlbikgnanabjgaaGreatQ17
import Derived.Test.YtlbikgnanabjgaaGreatQ20
namespace Go.Proofs.YtlbikgnanabjgaaGreat
open Go.RowKit
theorem substL_append (u : Tm) (k : Int) : ∀ (a b : List Tm) (i : Nat) (x d : Int), substL u k (a ++ b) i x d = substL u k a i x d ++ substL u k b (i + a.length) x d
 | [], b, i, x, d => by rw [List.nil_append, substL, List.nil_append]; rfl
 | t :: a, b, i, x, d => by
  rw [List.cons_append, substL, substL, substL_append u k a b, List.cons_append, List.length_cons, show i + 1 + a.length = i + (a.length + 1) by omega]
theorem substL_take (u : Tm) (k x d : Int) {l : List Tm} {q : Nat} (h : q < l.length) : substL u k (l.take (q + 1)) 0 x d = substL u k (l.take q) 0 x d ++ [l[q].subst u (x + under k q) (d + under k q)] := by
 rw [List.take_succ_eq_append_getElem h, substL_append, List.length_take, substL, substL, show 0 + min q l.length = q by omega]
def g4x (w : World) (g bb o : Nat) (k : Int) (v v2 : Value) (k1 n1 : Int) (gu : Nat) (ku nu : Int) (vu : Value) : Prop := ((g < w.heap.size ∧ bb < w.heap.size) ∧ w.cell? ⟨g, 0, none⟩ = some (.int .i64 k) ∧ w.cell? ⟨g, 2, none⟩ = some v ∧ w.cell? ⟨bb, o, none⟩ = some (.int .i64 k1) ∧ w.cell? ⟨bb, o + 1, none⟩ = some (.int .i64 n1) ∧ w.cell? ⟨bb, o + 2, none⟩ = some v2) ∧ (gu < w.heap.size ∧ w.cell? ⟨gu, 0, none⟩ = some (.int .i64 ku) ∧ w.cell? ⟨gu, 1, none⟩ = some (.int .i64 nu) ∧ w.cell? ⟨gu, 2, none⟩ = some vu)
theorem hold4_below {w w' : World} {g bb o gu : Nat} {k ku nu : Int} {v v2 vu : Value} {k1 n1 : Int} (h : g4x w g bb o k v v2 k1 n1 gu ku nu vu) (hb : Below w.heap.size w w') : g4x w' g bb o k v v2 k1 n1 gu ku nu vu :=
 ⟨hold2_below h.1 hb, Nat.lt_of_lt_of_le h.2.1 hb.size, (hb.cell (p := ⟨gu, 0, none⟩) h.2.1).trans h.2.2.1, (hb.cell (p := ⟨gu, 1, none⟩) h.2.1).trans h.2.2.2.1, (hb.cell (p := ⟨gu, 2, none⟩) h.2.1).trans h.2.2.2.2⟩
theorem hold4_grown {w w' : World} {row : Option Nat} {g bb o gu : Nat} {k ku nu : Int} {v v2 vu : Value} {k1 n1 : Int} (h : g4x w g bb o k v v2 k1 n1 gu ku nu vu) (hb : w.grownBy w' row) (hn : some g ≠ row ∧ some bb ≠ row) (hu : some gu ≠ row) : g4x w' g bb o k v v2 k1 n1 gu ku nu vu :=
 ⟨hold2_grown h.1 hb hn, Nat.lt_of_lt_of_le h.2.1 hb.size, (hb.cell_far ⟨gu, 0, none⟩ h.2.1 hu).trans h.2.2.1, (hb.cell_far ⟨gu, 1, none⟩ h.2.1 hu).trans h.2.2.2.1, (hb.cell_far ⟨gu, 2, none⟩ h.2.1 hu).trans h.2.2.2.2⟩
theorem hold4_set {w : World} {p : Addr} {x : Value} {g bb o gu : Nat} {k ku nu : Int} {v v2 vu : Value} {k1 n1 : Int} (h : g4x w g bb o k v v2 k1 n1 gu ku nu vu) (hg : p.block ≠ g) (hb : p.block ≠ bb) (hu : p.block ≠ gu) : g4x (w.setCell p x) g bb o k v v2 k1 n1 gu ku nu vu :=
 ⟨hold2_set h.1 hg hb, (by simpa [World.setCell] using h.2.1), (World.cell?_setCell_far w p _ x hu).trans h.2.2.1, (World.cell?_setCell_far w p _ x hu).trans h.2.2.2.1, (World.cell?_setCell_far w p _ x hu).trans h.2.2.2.2⟩
theorem var_new3 (w : World) (o o' o2 : Obj) (k n : Int) (s : Value) : VarAt (w.heap.size + 1 + 1 + 1) k n s ((((w.alloc o).alloc o').alloc o2).alloc (.cells #[.int .i64 k, .int .i64 n, s] 25)) := by
 have := VarAt.new (((w.alloc o).alloc o').alloc o2) k n s
 rwa [show (((w.alloc o).alloc o').alloc o2).heap.size = w.heap.size + 1 + 1 + 1 by simp] at this
set_option maxRecDepth 100000 in
set_option maxHeartbeats 3200000 in
theorem lsubst_any {u : Tm} (hu : u.Valid) : ∀ (l : List Tm) (k n x d : Int) (w : World) (s su : Value), -1000000 ≤ n → n ≤ 1000000 → 0 ≤ x → x + hgts l ≤ 2000 → 0 ≤ d → d + hgts l ≤ 1000 → l.length ≤ 1000000 → (∀ t ∈ l, t.allOk) → SlIn w 0 l s → SlIn w 0 u.kids su →
  Calls Tryz.prog 64 #[.agg #[.int .i64 k, .int .i64 n, s], .int .i64 x, .agg #[.int .i64 u.kind, .int .i64 u.num, su], .int .i64 d] w (MadePost w ((Tm.mk k n l).subst u x d)) := by
 obtain ⟨bu1, bu2⟩ := valid_bounds hu
 have hoku := u.allOk_iff.1 hu.1
 have hrnu := root_num2 hoku.1
 have hrlu := root_len hoku.1
 have HSHI : ∀ (e : Int), 0 ≤ e → e ≤ 1000 → ∀ w s, SlIn w 0 u.kids s → Calls Tryz.prog 75 #[.agg #[.int .i64 u.kind, .int .i64 u.num, s], .int .i64 e, .int .i64 0] w (MadePost w (u.shift e 0)) := fun e h1 h2 w s h => by
  have := lshift_any (e := e) (by omega) h2 u.kids u.kind u.num 0 w s (by omega) (by omega) (by omega) (by omega) (by omega) ((allsOk_iff _).1 hoku.2) h
  rwa [Tm.eta] at this
 have HSHI := tuck HSHI
 clear bu1 bu2 hoku hrnu hrlu hu
 intro l
 induction l using Tm.ind with
 | h l ih =>
 intro k n x d w v su hn0 hn1 hx0 hx1 hd0 hd1 hl4 hok hin hinu
 obtain ⟨a, cap, bb, o, rfl, hl, hp, hc⟩ := hin.open
 obtain ⟨ua, ucap, rfl⟩ := hinu.form
 have HU := tuck hinu
 clear hin hinu
 have HI := tuck ih
 have HP := tuck hp
 have HC := tuck hc
 have HOK := tuck hok
 by_cases hA : k = 1 ∧ n = x
 ·have g1 : (k == 1) = true := by simpa using hA.1
  have g2 : (n == x) = true := by simpa using hA.2
  have HPOST : Hid (∀ w' v F, Below w.heap.size w w' → SlOwn w' (u.shift d 0).kids v F → F.Nodup → (∀ g ∈ F, w.heap.size ≤ g ∧ g < w'.heap.size) → MadePost w ((Tm.mk k n l).subst u x d) (.returned (.agg #[.int .i64 (u.shift d 0).kind, .int .i64 (u.shift d 0).num, v])) w') := fun w' s F a1 a2 a3 a4 => by
   rw [Tm.subst, if_pos hA]
   exact ⟨a1, _, rfl, s, F, rfl, a2, a3, a4⟩
  have HSH := tuck (HSHI.out d hd0 (by omega))
  generalize MadePost w ((Tm.mk k n l).subst u x d) = post at *
  generalize u.shift d 0 = T at *
  clear ih hp hc hok hA HSHI HI HP HC HOK
  unfold maxLen at hl
  go_enter Tryz.func64, Tryz.ntmps64
  go_wp2_with fail
  refine (HSH.out _ _ (HU.out.below (below3 _ _ _ _))).mono ?_
  rintro e' w5 ⟨hb5, tv, rfl, ts, F, rfl, hso, hnd, hF⟩
  obtain ⟨ta, tc, rfl⟩ := hso.form
  have hy8 := (var_new2 w (.cells #[.int .i64 k, .int .i64 n, .slice a l.length cap] 25) (.cells #[.int .i64 u.kind, .int .i64 u.num, .slice ua u.kids.length ucap] 25) 0 0 (.slice none 0 0)).below hb5
  obtain ⟨z8, b0, b1, b2, bf⟩ := hy8.facts
  have HB := tuck (bAfter (below3 _ _ _ _) hb5)
  have HG := tuck hso
  have HN := tuck hnd
  have HF : Hid (∀ g ∈ F, w.heap.size + 1 + 1 + 1 ≤ g ∧ g < w5.heap.size) := tuck (fun g hg => ⟨by have := (hF g hg).1; simp at this; omega, (hF g hg).2⟩)
  clear hb5 hso hnd hF hy8
  go_wp2_with fail
  refine bodyPost_ret (v := .agg #[.int .i64 T.kind, .int .i64 T.num, .slice ta T.kids.length tc]) (by simp [results, Tryz.results64, go_sem, *]) rfl (HPOST.out _ _ F ?_ ?_ HN.out fun g hg => ?_)
  ·exact bSet3 HB.out (by omega) _ _ _ _ _ _
  ·exact HG.out.set3 (fun h => by have := (HF.out _ h).1; omega) _ _ _ _ _ _
  ·rw [size_set3]
   have := HF.out g hg
   omega
 obtain ⟨N', hN'⟩ : ∃ N', (if k = 1 ∧ x < n then n - 1 else n) = N' := ⟨_, rfl⟩
 have HCASE : ((k == 1) = true ∧ (n == x) = false ∧ decide (x < n) = true ∧ N' = n - 1) ∨ ((k == 1) = true ∧ (n == x) = false ∧ decide (x < n) = false ∧ N' = n) ∨ ((k == 1) = false ∧ (n == x) = (n == x) ∧ (n == x) = (n == x) ∧ N' = n) := by
  rw [← hN']
  by_cases h1 : k = 1
  ·have h3 : ¬ n = x := fun h => hA ⟨h1, h⟩
   by_cases h2 : x < n
   ·exact Or.inl ⟨by simpa using h1, by simpa using h3, by simpa using h2, by rw [if_pos ⟨h1, h2⟩]⟩
   ·exact Or.inr (Or.inl ⟨by simpa using h1, by simpa using h3, by simpa using h2, by rw [if_neg (fun h => h2 h.2)]⟩)
  ·exact Or.inr (Or.inr ⟨by simpa using h1, rfl, rfl, by rw [if_neg (fun h => h1 h.1)]⟩)
 have HPOST : Hid (∀ w' s F, Below w.heap.size w w' → SlOwn w' (substL u k l 0 x d) s F → F.Nodup → (∀ g ∈ F, w.heap.size ≤ g ∧ g < w'.heap.size) → MadePost w ((Tm.mk k n l).subst u x d) (.returned (.agg #[.int .i64 k, .int .i64 N', s])) w') := fun w' s F a1 a2 a3 a4 => by
  rw [Tm.subst, if_neg hA, hN']
  exact ⟨a1, _, rfl, s, F, rfl, a2, a3, a4⟩
 generalize MadePost w ((Tm.mk k n l).subst u x d) = post at *
 clear ih hp hc hok hN' hA HSHI
 unfold maxLen at hl
 obtain ⟨g1, g2, g3, hNN⟩ | ⟨g1, g2, g3, hNN⟩ | ⟨g1, -, -, hNN⟩ := HCASE
 ·rw [hNN] at HPOST
  clear hNN
  go_enter Tryz.func64, Tryz.ntmps64
  go_wp2_with fail
  have HBW0 := tuck (bAfter (below3 w (.cells #[.int .i64 k, .int .i64 n, .slice a l.length cap] 25) (.cells #[.int .i64 u.kind, .int .i64 u.num, .slice ua u.kids.length ucap] 25) (.cells #[.int .i64 0, .int .i64 0, .slice none 0 0] 25)) (below1 _ (.cells #[.int .i64 k, .int .i64 (n - 1), .slice none 0 0] 25)))
  have HY3 := tuck ((((VarAt.new w k n (.slice a l.length cap)).below (below1 _ (.cells #[.int .i64 u.kind, .int .i64 u.num, .slice ua u.kids.length ucap] 25))).below (below1 _ (.cells #[.int .i64 0, .int .i64 0, .slice none 0 0] 25))).below (below1 _ (.cells #[.int .i64 k, .int .i64 (n - 1), .slice none 0 0] 25)))
  have HYU := tuck (((var_new1 w (.cells #[.int .i64 k, .int .i64 n, .slice a l.length cap] 25) u.kind u.num (.slice ua u.kids.length ucap)).below (below1 _ (.cells #[.int .i64 0, .int .i64 0, .slice none 0 0] 25))).below (below1 _ (.cells #[.int .i64 k, .int .i64 (n - 1), .slice none 0 0] 25)))
  have HY6 := tuck ((var_new2 w (.cells #[.int .i64 k, .int .i64 n, .slice a l.length cap] 25) (.cells #[.int .i64 u.kind, .int .i64 u.num, .slice ua u.kids.length ucap] 25) 0 0 (.slice none 0 0)).below (below1 _ (.cells #[.int .i64 k, .int .i64 (n - 1), .slice none 0 0] 25)))
  have HY7 := tuck (var_new3 w (.cells #[.int .i64 k, .int .i64 n, .slice a l.length cap] 25) (.cells #[.int .i64 u.kind, .int .i64 u.num, .slice ua u.kids.length ucap] 25) (.cells #[.int .i64 0, .int .i64 0, .slice none 0 0] 25) k (n - 1) (.slice none 0 0))
  have hbw0 : Below w.heap.size w ((((w.alloc (.cells #[.int .i64 k, .int .i64 n, .slice a l.length cap] 25)).alloc (.cells #[.int .i64 u.kind, .int .i64 u.num, .slice ua u.kids.length ucap] 25)).alloc (.cells #[.int .i64 0, .int .i64 0, .slice none 0 0] 25)).alloc (.cells #[.int .i64 k, .int .i64 (n - 1), .slice none 0 0] 25)) := HBW0.out
  have hy3 : VarAt w.heap.size k n (.slice a l.length cap) ((((w.alloc (.cells #[.int .i64 k, .int .i64 n, .slice a l.length cap] 25)).alloc (.cells #[.int .i64 u.kind, .int .i64 u.num, .slice ua u.kids.length ucap] 25)).alloc (.cells #[.int .i64 0, .int .i64 0, .slice none 0 0] 25)).alloc (.cells #[.int .i64 k, .int .i64 (n - 1), .slice none 0 0] 25)) := HY3.out
  have hyu : VarAt (w.heap.size + 1) u.kind u.num (.slice ua u.kids.length ucap) ((((w.alloc (.cells #[.int .i64 k, .int .i64 n, .slice a l.length cap] 25)).alloc (.cells #[.int .i64 u.kind, .int .i64 u.num, .slice ua u.kids.length ucap] 25)).alloc (.cells #[.int .i64 0, .int .i64 0, .slice none 0 0] 25)).alloc (.cells #[.int .i64 k, .int .i64 (n - 1), .slice none 0 0] 25)) := HYU.out
  have hy6 : VarAt (w.heap.size + 1 + 1) 0 0 (.slice none 0 0) ((((w.alloc (.cells #[.int .i64 k, .int .i64 n, .slice a l.length cap] 25)).alloc (.cells #[.int .i64 u.kind, .int .i64 u.num, .slice ua u.kids.length ucap] 25)).alloc (.cells #[.int .i64 0, .int .i64 0, .slice none 0 0] 25)).alloc (.cells #[.int .i64 k, .int .i64 (n - 1), .slice none 0 0] 25)) := HY6.out
  have hy7 : VarAt (w.heap.size + 1 + 1 + 1) k (n - 1) (.slice none 0 0) ((((w.alloc (.cells #[.int .i64 k, .int .i64 n, .slice a l.length cap] 25)).alloc (.cells #[.int .i64 u.kind, .int .i64 u.num, .slice ua u.kids.length ucap] 25)).alloc (.cells #[.int .i64 0, .int .i64 0, .slice none 0 0] 25)).alloc (.cells #[.int .i64 k, .int .i64 (n - 1), .slice none 0 0] 25)) := HY7.out
  clear HBW0 HY3 HY6 HY7 HYU
  generalize ((((w.alloc (.cells #[.int .i64 k, .int .i64 n, .slice a l.length cap] 25)).alloc (.cells #[.int .i64 u.kind, .int .i64 u.num, .slice ua u.kids.length ucap] 25)).alloc (.cells #[.int .i64 0, .int .i64 0, .slice none 0 0] 25)).alloc (.cells #[.int .i64 k, .int .i64 (n - 1), .slice none 0 0] 25)) = W0 at *
  have HBW0 := tuck hbw0
  have HY3 := tuck hy3
  have HY6 := tuck hy6
  have HY7 := tuck hy7
  have HYU := tuck hyu
  clear hbw0 hy3 hy6 hy7 hyu g1
  try clear g3
  try clear g2
  go_loopw [10] (fun i wr => ∃ (q : Nat) (vl : Value) (F : List Nat), q ≤ l.length ∧ i = .int .i64 q ∧ Below w.heap.size w wr ∧ VarAt (w.heap.size + 1) u.kind u.num (.slice ua u.kids.length ucap) wr ∧ VarAt w.heap.size k n (.slice a l.length cap) wr ∧ VarAt (w.heap.size + 1 + 1) 0 0 (.slice none 0 0) wr ∧ VarAt (w.heap.size + 1 + 1 + 1) k (n - 1) vl wr ∧ RowG (w.heap.size + 1 + 1 + 1 + 1) (substL u k (l.take q) 0 x d) vl F wr) (fun i _ => l.length - (intOf i).toNat)
  case atStart => exact ⟨0, _, [], Nat.zero_le _, rfl, HBW0.out, HYU.out, HY3.out, HY6.out, HY7.out, RowG.nil _ _⟩
  case round =>
   obtain ⟨q, vl, F, hq, rfl, hb, hyu, hy3, hy6, hy7, hrg⟩ := hrel
   have HYU := tuck hyu
   have HB := tuck hb
   have HY3 := tuck hy3
   have HY6 := tuck hy6
   have HY7 := tuck hy7
   have HRG := tuck hrg
   clear hb hyu hy3 hy6 hy7 hrg HBW0
   have hLq : (substL u k (l.take q) 0 x d).length = q := by rw [substL_length, List.length_take]; omega
   obtain ⟨va, vc, rfl⟩ := HRG.out.form' hLq
   obtain ⟨z3, a0, a1, a2, a3f⟩ := HY3.out.facts
   obtain ⟨z7, c70, c71, c72, c7f⟩ := HY7.out.facts
   by_cases hlt : q < l.length
   ·have hlti : ((q : Int) < (l.length : Int)) := by omega
    have hqi : (0 : Int) ≤ (q : Int) := by omega
    have hh := mem_hgts' hlt
    have hund := under_01 k q
    have HTK := tuck (substL_take u k x d hlt)
    have hokq : l[q].allOk := HOK.out _ (List.getElem_mem hlt)
    obtain ⟨rfl, _, hbw⟩ := HP.out (by intro e; rw [e] at hlt; simp at hlt)
    obtain ⟨s, c0, c1, c2, hs⟩ := HC.out q hlt
    obtain ⟨sa, sc, rfl⟩ := hs.form
    replace c0 := (HB.out.cell (p := ⟨bb, o + q * 3, none⟩) hbw).trans c0
    replace c1 := (HB.out.cell (p := ⟨bb, o + q * 3 + 1, none⟩) hbw).trans c1
    replace c2 := (HB.out.cell (p := ⟨bb, o + q * 3 + 2, none⟩) hbw).trans c2
    have hbr : bb < wr.heap.size := World.block_lt_of_cell? wr _ c0
    have HS2 := tuck hs
    have HI' := tuck (HI.out q hlt l[q].kind l[q].num)
    rw [Tm.eta] at HI'
    clear hs HI
    generalize l[q] = y at *
    have hyn := root_num2 (y.allOk_iff.1 hokq).1
    have hyl := root_len (y.allOk_iff.1 hokq).1
    have hyk : ∀ t ∈ y.kids, t.allOk := (allsOk_iff _).1 (y.allOk_iff.1 hokq).2
    have hygt := y.hgt_eq
    have HYN := tuck hyn
    have HYL := tuck hyl
    have HYK := tuck hyk
    have HB3 : Hid (bb ≠ w.heap.size + 1 + 1 + 1 ∧ some (w.heap.size + 1 + 1 + 1) ≠ (Value.slice va q vc).ownBlock ∧ some (w.heap.size) ≠ (Value.slice va q vc).ownBlock ∧ some bb ≠ (Value.slice va q vc).ownBlock ∧ some (w.heap.size + 1 + 1) ≠ (Value.slice va q vc).ownBlock ∧ some (w.heap.size + 1) ≠ (Value.slice va q vc).ownBlock) := by
     have hlo := HRG.out.lt
     refine ⟨by omega, fun e => ?_, fun e => ?_, fun e => ?_, fun e => ?_, fun e => ?_⟩ <;> (have := (hlo _ e.symm).1; omega)
    obtain ⟨zu, u0, u1, u2, uf⟩ := HYU.out.facts
    have hx0 : g4x wr (w.heap.size) bb (o + q * 3) k (.slice (some ⟨bb, o, none⟩) l.length cap) (.slice sa y.kids.length sc) y.kind y.num (w.heap.size + 1) u.kind u.num (.slice ua u.kids.length ucap) := ⟨⟨⟨z3, hbr⟩, a0, a2, c0, c1, c2⟩, zu, u0, u1, u2⟩
    have HX0 := tuck hx0
    unfold g4x at hx0
    have HX0' := tuck hx0
    clear hx0
    have hxc : 0 ≤ x + under k q ∧ x + under k q + hgts y.kids ≤ 2000 ∧ 0 ≤ d + under k q ∧ d + under k q + hgts y.kids ≤ 1000 := by omega
    have HXC := tuck hxc
    have HW1 : IntKind.i64.wrap (x + under k q) = x + under k q := IntWalk.i64_in _ (by omega)
    have HW2 : IntKind.i64.wrap (d + under k q) = d + under k q := IntWalk.i64_in _ (by omega)
    have HIQ := tuck (fun w' s' s2 (h' : SlIn w' 0 y.kids s') (h2 : SlIn w' 0 u.kids s2) => HI'.out (x + under k q) (d + under k q) w' s' s2 (by have := HYN.out; omega) (by have := HYN.out; omega) HXC.out.1 HXC.out.2.1 HXC.out.2.2.1 HXC.out.2.2.2 (by have := HYL.out; omega) HYK.out h' h2)
    clear HI'
    generalize y.subst u (x + under k q) (d + under k q) = T at *
    clear hxc hh hygt hokq hyn hyl hyk
    obtain ⟨i0, hi0, hz0, hz1, hz2⟩ := info_parts info_termG
    have hq4 : q + 1 ≤ maxLen := by unfold maxLen; omega
    have hqb : (q + 1) * 40 ≤ 140737488355328 := by omega
    go_wp2_with (go_at_call 76; refine (under_any k q _).mono ?_; rintro e2 w2 ⟨rfl, rfl⟩)
    have HT12 : ∀ w' : World, (fun w' : World => w'.cell? ⟨w.heap.size + 1 + 1 + 1, 2, none⟩ = some (.slice va q vc) ∧ (((w.heap.size < w'.heap.size ∧ bb < w'.heap.size) ∧ w'.cell? ⟨w.heap.size, 0, none⟩ = some (.int .i64 k) ∧ w'.cell? ⟨w.heap.size, 2, none⟩ = some (.slice (some ⟨bb, o, none⟩) l.length cap) ∧ w'.cell? ⟨bb, o + q * 3, none⟩ = some (.int .i64 y.kind) ∧ w'.cell? ⟨bb, o + q * 3 + 1, none⟩ = some (.int .i64 y.num) ∧ w'.cell? ⟨bb, o + q * 3 + 2, none⟩ = some (.slice sa y.kids.length sc)) ∧ (w.heap.size + 1 < w'.heap.size ∧ w'.cell? ⟨w.heap.size + 1, 0, none⟩ = some (.int .i64 u.kind) ∧ w'.cell? ⟨w.heap.size + 1, 1, none⟩ = some (.int .i64 u.num) ∧ w'.cell? ⟨w.heap.size + 1, 2, none⟩ = some (.slice ua u.kids.length ucap)))) w' → (fun w' : World => ((w.heap.size < w'.heap.size ∧ bb < w'.heap.size) ∧ w'.cell? ⟨w.heap.size, 0, none⟩ = some (.int .i64 k) ∧ w'.cell? ⟨w.heap.size, 2, none⟩ = some (.slice (some ⟨bb, o, none⟩) l.length cap) ∧ w'.cell? ⟨bb, o + q * 3, none⟩ = some (.int .i64 y.kind) ∧ w'.cell? ⟨bb, o + q * 3 + 1, none⟩ = some (.int .i64 y.num) ∧ w'.cell? ⟨bb, o + q * 3 + 2, none⟩ = some (.slice sa y.kids.length sc)) ∧ (w.heap.size + 1 < w'.heap.size ∧ w'.cell? ⟨w.heap.size + 1, 0, none⟩ = some (.int .i64 u.kind) ∧ w'.cell? ⟨w.heap.size + 1, 1, none⟩ = some (.int .i64 u.num) ∧ w'.cell? ⟨w.heap.size + 1, 2, none⟩ = some (.slice ua u.kids.length ucap))) w' := fun w' h => h.2
    refine AnyTwo.begin (fun w' : World => w'.cell? ⟨w.heap.size + 1 + 1 + 1, 2, none⟩ = some (.slice va q vc) ∧ (((w.heap.size < w'.heap.size ∧ bb < w'.heap.size) ∧ w'.cell? ⟨w.heap.size, 0, none⟩ = some (.int .i64 k) ∧ w'.cell? ⟨w.heap.size, 2, none⟩ = some (.slice (some ⟨bb, o, none⟩) l.length cap) ∧ w'.cell? ⟨bb, o + q * 3, none⟩ = some (.int .i64 y.kind) ∧ w'.cell? ⟨bb, o + q * 3 + 1, none⟩ = some (.int .i64 y.num) ∧ w'.cell? ⟨bb, o + q * 3 + 2, none⟩ = some (.slice sa y.kids.length sc)) ∧ (w.heap.size + 1 < w'.heap.size ∧ w'.cell? ⟨w.heap.size + 1, 0, none⟩ = some (.int .i64 u.kind) ∧ w'.cell? ⟨w.heap.size + 1, 1, none⟩ = some (.int .i64 u.num) ∧ w'.cell? ⟨w.heap.size + 1, 2, none⟩ = some (.slice ua u.kids.length ucap)))) (fun w' : World => ((w.heap.size < w'.heap.size ∧ bb < w'.heap.size) ∧ w'.cell? ⟨w.heap.size, 0, none⟩ = some (.int .i64 k) ∧ w'.cell? ⟨w.heap.size, 2, none⟩ = some (.slice (some ⟨bb, o, none⟩) l.length cap) ∧ w'.cell? ⟨bb, o + q * 3, none⟩ = some (.int .i64 y.kind) ∧ w'.cell? ⟨bb, o + q * 3 + 1, none⟩ = some (.int .i64 y.num) ∧ w'.cell? ⟨bb, o + q * 3 + 2, none⟩ = some (.slice sa y.kids.length sc)) ∧ (w.heap.size + 1 < w'.heap.size ∧ w'.cell? ⟨w.heap.size + 1, 0, none⟩ = some (.int .i64 u.kind) ∧ w'.cell? ⟨w.heap.size + 1, 1, none⟩ = some (.int .i64 u.num) ∧ w'.cell? ⟨w.heap.size + 1, 2, none⟩ = some (.slice ua u.kids.length ucap))) 16 (by kernel_rfl) ?_
    have hS1 : (fun w' : World => w'.cell? ⟨w.heap.size + 1 + 1 + 1, 2, none⟩ = some (.slice va q vc) ∧ (((w.heap.size < w'.heap.size ∧ bb < w'.heap.size) ∧ w'.cell? ⟨w.heap.size, 0, none⟩ = some (.int .i64 k) ∧ w'.cell? ⟨w.heap.size, 2, none⟩ = some (.slice (some ⟨bb, o, none⟩) l.length cap) ∧ w'.cell? ⟨bb, o + q * 3, none⟩ = some (.int .i64 y.kind) ∧ w'.cell? ⟨bb, o + q * 3 + 1, none⟩ = some (.int .i64 y.num) ∧ w'.cell? ⟨bb, o + q * 3 + 2, none⟩ = some (.slice sa y.kids.length sc)) ∧ (w.heap.size + 1 < w'.heap.size ∧ w'.cell? ⟨w.heap.size + 1, 0, none⟩ = some (.int .i64 u.kind) ∧ w'.cell? ⟨w.heap.size + 1, 1, none⟩ = some (.int .i64 u.num) ∧ w'.cell? ⟨w.heap.size + 1, 2, none⟩ = some (.slice ua u.kids.length ucap)))) wr.drew := ⟨c72, HX0'.out⟩
    refine AnyTwo.tk HT12 (i := 0) (oi := ⟨some 53, _, _, _, _, _⟩) rfl (ph_one (by kernel_rfl) hS1) ?_
    try simp only [pts]
    refine AnyTwo.take (i := 1) (oi := ⟨some 54, _, _, _, _, _⟩) (v := ?va1) rfl (by kernel_rfl) (by kernel_rfl) (by decide +kernel) (by kernel_rfl) (by rfl) (by kernel_rfl) (fun _ _ _ h => h) (Or.inl ⟨by rfl, ?ya1⟩) hS1 ?ra1
    case ya1 => (intro w hSw; (try dsimp only at hSw); go_simp; try (with_reducible rfl))
    try simp only [pts]
    refine AnyTwo.tk HT12 (i := 2) (oi := ⟨some 55, _, _, _, _, _⟩) rfl (ph_one (by kernel_rfl) hS1) ?_
    try simp only [pts]
    refine AnyTwo.tk HT12 (i := 3) (oi := ⟨some 56, _, _, _, _, _⟩) rfl (ph_one (by kernel_rfl) hS1) ?_
    try simp only [pts]
    refine AnyTwo.tk HT12 (i := 4) (oi := ⟨some 57, _, _, _, _, _⟩) rfl (ph_one (by kernel_rfl) hS1) ?_
    try simp only [pts]
    refine AnyTwo.tk HT12 (i := 5) (oi := ⟨some 58, _, _, _, _, _⟩) rfl (ph_one (by kernel_rfl) hS1) ?_
    try simp only [pts]
    refine AnyTwo.tk HT12 (i := 6) (oi := ⟨some 59, _, _, _, _, _⟩) rfl (ph_one (by kernel_rfl) hS1) ?_
    try simp only [pts]
    refine AnyTwo.tk HT12 (i := 7) (oi := ⟨some 60, _, _, _, _, _⟩) rfl (ph_one (by kernel_rfl) hS1) ?_
    try simp only [pts]
    refine AnyTwo.tk HT12 (i := 8) (oi := ⟨some 61, _, _, _, _, _⟩) rfl (ph_one (by kernel_rfl) hS1) ?_
    try simp only [pts]
    refine AnyTwo.tk HT12 (i := 9) (oi := ⟨some 62, _, _, _, _, _⟩) rfl (ph_one (by kernel_rfl) hS1) ?_
    try simp only [pts]
    refine AnyTwo.tk HT12 (i := 10) (oi := ⟨some 63, _, _, _, _, _⟩) rfl (ph_one (by kernel_rfl) hS1) ?_
    try simp only [pts]
    refine AnyTwo.tk HT12 (i := 11) (oi := ⟨some 64, _, _, _, _, _⟩) rfl (ph_one (by kernel_rfl) hS1) ?_
    try simp only [pts]
    refine AnyTwo.tk HT12 (i := 12) (oi := ⟨some 65, _, _, _, _, _⟩) rfl (ph_one (by kernel_rfl) hS1) ?_
    try simp only [pts]
    refine AnyTwo.tk HT12 (i := 13) (oi := ⟨some 66, _, _, _, _, _⟩) rfl (ph_one (by kernel_rfl) hS1) ?_
    try simp only [pts]
    refine AnyTwo.step (i := 14) (o := ⟨some 67, _, _, _, _, _⟩) (by kernel_rfl) rfl (fun K hK => ?_)
    go_simp
    refine (HIQ.out _ _ _ (HS2.out.below (bAfter HB.out (Below.refl _ _).drew)) (HU.out.below (bAfter HB.out (Below.refl _ _).drew))).mono ?_
    rintro e3 w3 ⟨hb3, tv, rfl, ts, F2, rfl, hs2, hn2, hF2⟩
    obtain ⟨ta, tc, rfl⟩ := hs2.form
    have hbd := bAfter (Below.refl wr.heap.size wr).drew hb3
    have HX3 := tuck (hold4_below HX0.out hbd)
    have hx3 := HX3.out
    unfold g4x at hx3
    have HBD := tuck hbd
    have HV7 := tuck (HY7.out.below hbd)
    obtain ⟨z7', d70, d71, d72, d7f⟩ := HV7.out.facts
    have HX4 := tuck (hold4_below HX3.out (below1 w3 (.cells #[.int .i64 T.kind, .int .i64 T.num, .slice ta T.kids.length tc] 25)))
    have hx4 := HX4.out
    unfold g4x at hx4
    have HRG4 := tuck ((HRG.out.below hbd).below (below1 w3 (.cells #[.int .i64 T.kind, .int .i64 T.num, .slice ta T.kids.length tc] 25)))
    obtain ⟨xs, hox, hpush⟩ := HRG4.out.grow hLq
    have HOX := tuck hox
    have HPUSH := tuck hpush
    have HS3 := tuck (hs2.alloc (fun g hg => (hF2 g hg).2) (.cells #[.int .i64 T.kind, .int .i64 T.num, .slice ta T.kids.length tc] 25))
    have HN3 := tuck hn2
    have HF3 := tuck hF2
    have d72' := ((below1 w3 (.cells #[.int .i64 T.kind, .int .i64 T.num, .slice ta T.kids.length tc] 25)).cell (p := ⟨w.heap.size + 1 + 1 + 1, 2, none⟩) z7').trans d72
    have HZ4 : Hid (w.heap.size + 1 + 1 + 1 < (w3.alloc (.cells #[.int .i64 T.kind, .int .i64 T.num, .slice ta T.kids.length tc] 25)).heap.size) := tuck (Nat.lt_of_lt_of_le z7' (below1 w3 _).size)
    have HX3' := tuck hx3
    have HX4' := tuck hx4
    clear hox hpush hs2 hn2 hF2 hbd hb3 hx3 hx4
    have hS1' := And.intro d72 HX3'.out
    refine hK.out _ _ (ph_one (by kernel_rfl) hS1') ?_
    clear hK K hS1
    have hS1 := hS1'
    clear hS1'
    try simp only [pts]
    refine AnyTwo.step (i := 15) (o := ⟨some 68, _, _, _, _, _⟩) (by kernel_rfl) rfl (fun K hK => ?_)
    go_simp
    have hS1' := And.intro d72' HX4'.out
    refine hK.out _ _ (ph_one (by kernel_rfl) hS1') ?_
    clear hK K hS1
    have hS1 := hS1'
    clear hS1'
    try simp only [pts]
    refine AnyTwo.step (i := 16) (o := ⟨some 69, _, _, _, _, _⟩) (by kernel_rfl) rfl (fun K hK => ?_)
    refine step_append_lies _ (by rfl) _ _ _ (by rfl) (w.heap.size + 1 + 1 + 1 + 1) 25 i0 _ 3 40 Tryz.underlying23 hi0 hz0 hz1 hz2 rfl (by omega) _ _ _ (by rfl) HOX.out ⟨w3.heap.size, 0, none⟩ 1 1 [.int .i64 T.kind, .int .i64 T.num, .slice ta T.kids.length tc] (by rfl) (by rfl) (World.news_of_block (cs := #[.int .i64 T.kind, .int .i64 T.num, .slice ta T.kids.length tc]) (t := 25) (fr := (0, 0)) (heap_new w3 _)) (by simp [Value.oneCell']) (by omega) hq4 hqb (by simp; omega) (w3.heap.size + 1) (by simp) ?_
    intro gg gcap w4 hown4 hgrow hat hlt4
    have k70 := (hgrow.cell_far ⟨w.heap.size + 1 + 1 + 1, 2, none⟩ HZ4.out HB3.out.2.1).trans d72'
    have k7f := (hgrow.frozen_far ⟨w.heap.size + 1 + 1 + 1, 2, none⟩ HZ4.out HB3.out.2.1).trans (((below1 w3 _).frozen (p := ⟨w.heap.size + 1 + 1 + 1, 2, none⟩) z7').trans (d7f 2))
    have HX5 := tuck (hold4_grown HX4.out hgrow ⟨HB3.out.2.2.1, HB3.out.2.2.2.1⟩ HB3.out.2.2.2.2.2)
    have hx5 := HX5.out
    unfold g4x at hx5
    have HX5' := tuck hx5
    have hx6 := fun x : Value => hold4_set (x := x) HX5.out (p := ⟨w.heap.size + 1 + 1 + 1, 2, none⟩) (show w.heap.size + 1 + 1 + 1 ≠ w.heap.size by omega) (Ne.symm HB3.out.1) (show w.heap.size + 1 + 1 + 1 ≠ w.heap.size + 1 by omega)
    unfold g4x at hx6
    have HX6' := tuck hx6
    clear hx5 hx6
    refine hK.out _ _ (ph_end (by kernel_rfl) (HX5'.out)) ?_
    clear hK K
    try simp only [pts]
    refine AnyTwo.tk HT12 (i := 17) (oi := ⟨some 70, _, _, _, _, _⟩) rfl (ph_end (by kernel_rfl) HX5'.out) ?_
    try simp only [pts]
    refine AnyTwo.step (i := 18) (o := ⟨none, _, _, _, _, _⟩) (by kernel_rfl) rfl (fun K hK => ?_)
    go_simp
    refine hK.out _ _ (ph_end (by kernel_rfl) (HX6'.out _)) ?_
    clear hK K
    try simp only [pts]
    refine AnyTwo.done (by kernel_rfl) ?_ _
    have HZ3 : Hid (wr.heap.size ≤ w3.heap.size) := HBD.out.size
    clear d70 d71 d72 d7f z7' d72' hS1 HT12 k70 k7f HW1 HW2 hund
    go_wp2_with fail
    go_roundw
    case rel =>
     have hz3 := HZ3.out
     have hdr : wr.drew.heap.size = wr.heap.size := rfl
     have hb4 : Below wr.heap.size wr (w3.alloc (.cells #[.int .i64 T.kind, .int .i64 T.num, .slice ta T.kids.length tc] 25)) := bAfter HBD.out (below1 _ _)
     have hlt := HRG.out.lt
     have hflt := HRG.out.flt
     refine ⟨q + 1, .slice (some ⟨gg, 0, none⟩) (q + 1) gcap, F ++ F2, by omega, by go_num, ?_, ?_, ?_, ?_, ?_, ?_⟩
     ·exact ((bAfter HB.out hb4).grown hgrow (bAfter HB.out hb4).size (fun g hg => by have := (hlt g hg).1; omega)).setCell (by show w.heap.size ≤ w.heap.size + 1 + 1 + 1; omega) _
     ·exact ((HYU.out.below hb4).grown hgrow HB3.out.2.2.2.2.2).far (by show w.heap.size + 1 ≠ w.heap.size + 1 + 1 + 1; omega) _
     ·exact ((HY3.out.below hb4).grown hgrow HB3.out.2.2.1).far (by show w.heap.size ≠ w.heap.size + 1 + 1 + 1; omega) _
     ·exact ((HY6.out.below hb4).grown hgrow HB3.out.2.2.2.2.1).far (by show w.heap.size + 1 + 1 ≠ w.heap.size + 1 + 1 + 1; omega) _
     ·exact ((HY7.out.below hb4).grown hgrow HB3.out.2.1).set2
     ·rw [HTK.out]
      refine (HPUSH.out _ _ F2 w4 T HS3.out HN3.out (fun g hg => ?_) hown4 hgrow (hat.imp (fun h => h.symm) (fun h => by rw [h]; simp [Value.ownBlock]))).setCell (by show w.heap.size + 1 + 1 + 1 < w.heap.size + 1 + 1 + 1 + 1; omega) _
      have h1 := HF3.out g hg
      refine ⟨by omega, by simp; omega, fun hf => by have := (hflt g hf).2.1; omega, fun e => by have := (hlt g e).2; omega⟩
    case measure => simp [intOf]; omega
   ·have hge2 : ¬ ((q : Int) < (l.length : Int)) := by omega
    have e : q = l.length := by omega
    subst e
    obtain ⟨z6, c60, c61, c62, c6f⟩ := HY6.out.facts
    obtain ⟨G, hG, hGn, hGb⟩ := HRG.out.done (by rw [hLq]; unfold maxLen; omega)
    rw [List.take_length] at hG
    go_wp2_with fail
    refine bodyPost_ret (v := .agg #[.int .i64 k, .int .i64 ((n - 1)), .slice va l.length vc]) (by simp [results, Tryz.results64, go_sem, *]) rfl (HPOST.out _ _ G ?_ ?_ hGn fun g hg => ?_)
    ·exact bSet3 HB.out (by omega) _ _ _ _ _ _
    ·exact hG.set3 (fun h => by have := (hGb _ h).1; omega) _ _ _ _ _ _
    ·rw [size_set3]
     have := hGb g hg
     omega
 ·rw [hNN] at HPOST
  clear hNN
  go_enter Tryz.func64, Tryz.ntmps64
  go_wp2_with fail
  have HBW0 := tuck (bAfter (below3 w (.cells #[.int .i64 k, .int .i64 n, .slice a l.length cap] 25) (.cells #[.int .i64 u.kind, .int .i64 u.num, .slice ua u.kids.length ucap] 25) (.cells #[.int .i64 0, .int .i64 0, .slice none 0 0] 25)) (below1 _ (.cells #[.int .i64 k, .int .i64 (n), .slice none 0 0] 25)))
  have HY3 := tuck ((((VarAt.new w k n (.slice a l.length cap)).below (below1 _ (.cells #[.int .i64 u.kind, .int .i64 u.num, .slice ua u.kids.length ucap] 25))).below (below1 _ (.cells #[.int .i64 0, .int .i64 0, .slice none 0 0] 25))).below (below1 _ (.cells #[.int .i64 k, .int .i64 (n), .slice none 0 0] 25)))
  have HYU := tuck (((var_new1 w (.cells #[.int .i64 k, .int .i64 n, .slice a l.length cap] 25) u.kind u.num (.slice ua u.kids.length ucap)).below (below1 _ (.cells #[.int .i64 0, .int .i64 0, .slice none 0 0] 25))).below (below1 _ (.cells #[.int .i64 k, .int .i64 (n), .slice none 0 0] 25)))
  have HY6 := tuck ((var_new2 w (.cells #[.int .i64 k, .int .i64 n, .slice a l.length cap] 25) (.cells #[.int .i64 u.kind, .int .i64 u.num, .slice ua u.kids.length ucap] 25) 0 0 (.slice none 0 0)).below (below1 _ (.cells #[.int .i64 k, .int .i64 (n), .slice none 0 0] 25)))
  have HY7 := tuck (var_new3 w (.cells #[.int .i64 k, .int .i64 n, .slice a l.length cap] 25) (.cells #[.int .i64 u.kind, .int .i64 u.num, .slice ua u.kids.length ucap] 25) (.cells #[.int .i64 0, .int .i64 0, .slice none 0 0] 25) k (n) (.slice none 0 0))
  have hbw0 : Below w.heap.size w ((((w.alloc (.cells #[.int .i64 k, .int .i64 n, .slice a l.length cap] 25)).alloc (.cells #[.int .i64 u.kind, .int .i64 u.num, .slice ua u.kids.length ucap] 25)).alloc (.cells #[.int .i64 0, .int .i64 0, .slice none 0 0] 25)).alloc (.cells #[.int .i64 k, .int .i64 (n), .slice none 0 0] 25)) := HBW0.out
  have hy3 : VarAt w.heap.size k n (.slice a l.length cap) ((((w.alloc (.cells #[.int .i64 k, .int .i64 n, .slice a l.length cap] 25)).alloc (.cells #[.int .i64 u.kind, .int .i64 u.num, .slice ua u.kids.length ucap] 25)).alloc (.cells #[.int .i64 0, .int .i64 0, .slice none 0 0] 25)).alloc (.cells #[.int .i64 k, .int .i64 (n), .slice none 0 0] 25)) := HY3.out
  have hyu : VarAt (w.heap.size + 1) u.kind u.num (.slice ua u.kids.length ucap) ((((w.alloc (.cells #[.int .i64 k, .int .i64 n, .slice a l.length cap] 25)).alloc (.cells #[.int .i64 u.kind, .int .i64 u.num, .slice ua u.kids.length ucap] 25)).alloc (.cells #[.int .i64 0, .int .i64 0, .slice none 0 0] 25)).alloc (.cells #[.int .i64 k, .int .i64 (n), .slice none 0 0] 25)) := HYU.out
  have hy6 : VarAt (w.heap.size + 1 + 1) 0 0 (.slice none 0 0) ((((w.alloc (.cells #[.int .i64 k, .int .i64 n, .slice a l.length cap] 25)).alloc (.cells #[.int .i64 u.kind, .int .i64 u.num, .slice ua u.kids.length ucap] 25)).alloc (.cells #[.int .i64 0, .int .i64 0, .slice none 0 0] 25)).alloc (.cells #[.int .i64 k, .int .i64 (n), .slice none 0 0] 25)) := HY6.out
  have hy7 : VarAt (w.heap.size + 1 + 1 + 1) k (n) (.slice none 0 0) ((((w.alloc (.cells #[.int .i64 k, .int .i64 n, .slice a l.length cap] 25)).alloc (.cells #[.int .i64 u.kind, .int .i64 u.num, .slice ua u.kids.length ucap] 25)).alloc (.cells #[.int .i64 0, .int .i64 0, .slice none 0 0] 25)).alloc (.cells #[.int .i64 k, .int .i64 (n), .slice none 0 0] 25)) := HY7.out
  clear HBW0 HY3 HY6 HY7 HYU
  generalize ((((w.alloc (.cells #[.int .i64 k, .int .i64 n, .slice a l.length cap] 25)).alloc (.cells #[.int .i64 u.kind, .int .i64 u.num, .slice ua u.kids.length ucap] 25)).alloc (.cells #[.int .i64 0, .int .i64 0, .slice none 0 0] 25)).alloc (.cells #[.int .i64 k, .int .i64 (n), .slice none 0 0] 25)) = W0 at *
  have HBW0 := tuck hbw0
  have HY3 := tuck hy3
  have HY6 := tuck hy6
  have HY7 := tuck hy7
  have HYU := tuck hyu
  clear hbw0 hy3 hy6 hy7 hyu g1
  try clear g3
  try clear g2
  go_loopw [10] (fun i wr => ∃ (q : Nat) (vl : Value) (F : List Nat), q ≤ l.length ∧ i = .int .i64 q ∧ Below w.heap.size w wr ∧ VarAt (w.heap.size + 1) u.kind u.num (.slice ua u.kids.length ucap) wr ∧ VarAt w.heap.size k n (.slice a l.length cap) wr ∧ VarAt (w.heap.size + 1 + 1) 0 0 (.slice none 0 0) wr ∧ VarAt (w.heap.size + 1 + 1 + 1) k (n) vl wr ∧ RowG (w.heap.size + 1 + 1 + 1 + 1) (substL u k (l.take q) 0 x d) vl F wr) (fun i _ => l.length - (intOf i).toNat)
  case atStart => exact ⟨0, _, [], Nat.zero_le _, rfl, HBW0.out, HYU.out, HY3.out, HY6.out, HY7.out, RowG.nil _ _⟩
  case round =>
   obtain ⟨q, vl, F, hq, rfl, hb, hyu, hy3, hy6, hy7, hrg⟩ := hrel
   have HYU := tuck hyu
   have HB := tuck hb
   have HY3 := tuck hy3
   have HY6 := tuck hy6
   have HY7 := tuck hy7
   have HRG := tuck hrg
   clear hb hyu hy3 hy6 hy7 hrg HBW0
   have hLq : (substL u k (l.take q) 0 x d).length = q := by rw [substL_length, List.length_take]; omega
   obtain ⟨va, vc, rfl⟩ := HRG.out.form' hLq
   obtain ⟨z3, a0, a1, a2, a3f⟩ := HY3.out.facts
   obtain ⟨z7, c70, c71, c72, c7f⟩ := HY7.out.facts
   by_cases hlt : q < l.length
   ·have hlti : ((q : Int) < (l.length : Int)) := by omega
    have hqi : (0 : Int) ≤ (q : Int) := by omega
    have hh := mem_hgts' hlt
    have hund := under_01 k q
    have HTK := tuck (substL_take u k x d hlt)
    have hokq : l[q].allOk := HOK.out _ (List.getElem_mem hlt)
    obtain ⟨rfl, _, hbw⟩ := HP.out (by intro e; rw [e] at hlt; simp at hlt)
    obtain ⟨s, c0, c1, c2, hs⟩ := HC.out q hlt
    obtain ⟨sa, sc, rfl⟩ := hs.form
    replace c0 := (HB.out.cell (p := ⟨bb, o + q * 3, none⟩) hbw).trans c0
    replace c1 := (HB.out.cell (p := ⟨bb, o + q * 3 + 1, none⟩) hbw).trans c1
    replace c2 := (HB.out.cell (p := ⟨bb, o + q * 3 + 2, none⟩) hbw).trans c2
    have hbr : bb < wr.heap.size := World.block_lt_of_cell? wr _ c0
    have HS2 := tuck hs
    have HI' := tuck (HI.out q hlt l[q].kind l[q].num)
    rw [Tm.eta] at HI'
    clear hs HI
    generalize l[q] = y at *
    have hyn := root_num2 (y.allOk_iff.1 hokq).1
    have hyl := root_len (y.allOk_iff.1 hokq).1
    have hyk : ∀ t ∈ y.kids, t.allOk := (allsOk_iff _).1 (y.allOk_iff.1 hokq).2
    have hygt := y.hgt_eq
    have HYN := tuck hyn
    have HYL := tuck hyl
    have HYK := tuck hyk
    have HB3 : Hid (bb ≠ w.heap.size + 1 + 1 + 1 ∧ some (w.heap.size + 1 + 1 + 1) ≠ (Value.slice va q vc).ownBlock ∧ some (w.heap.size) ≠ (Value.slice va q vc).ownBlock ∧ some bb ≠ (Value.slice va q vc).ownBlock ∧ some (w.heap.size + 1 + 1) ≠ (Value.slice va q vc).ownBlock ∧ some (w.heap.size + 1) ≠ (Value.slice va q vc).ownBlock) := by
     have hlo := HRG.out.lt
     refine ⟨by omega, fun e => ?_, fun e => ?_, fun e => ?_, fun e => ?_, fun e => ?_⟩ <;> (have := (hlo _ e.symm).1; omega)
    obtain ⟨zu, u0, u1, u2, uf⟩ := HYU.out.facts
    have hx0 : g4x wr (w.heap.size) bb (o + q * 3) k (.slice (some ⟨bb, o, none⟩) l.length cap) (.slice sa y.kids.length sc) y.kind y.num (w.heap.size + 1) u.kind u.num (.slice ua u.kids.length ucap) := ⟨⟨⟨z3, hbr⟩, a0, a2, c0, c1, c2⟩, zu, u0, u1, u2⟩
    have HX0 := tuck hx0
    unfold g4x at hx0
    have HX0' := tuck hx0
    clear hx0
    have hxc : 0 ≤ x + under k q ∧ x + under k q + hgts y.kids ≤ 2000 ∧ 0 ≤ d + under k q ∧ d + under k q + hgts y.kids ≤ 1000 := by omega
    have HXC := tuck hxc
    have HW1 : IntKind.i64.wrap (x + under k q) = x + under k q := IntWalk.i64_in _ (by omega)
    have HW2 : IntKind.i64.wrap (d + under k q) = d + under k q := IntWalk.i64_in _ (by omega)
    have HIQ := tuck (fun w' s' s2 (h' : SlIn w' 0 y.kids s') (h2 : SlIn w' 0 u.kids s2) => HI'.out (x + under k q) (d + under k q) w' s' s2 (by have := HYN.out; omega) (by have := HYN.out; omega) HXC.out.1 HXC.out.2.1 HXC.out.2.2.1 HXC.out.2.2.2 (by have := HYL.out; omega) HYK.out h' h2)
    clear HI'
    generalize y.subst u (x + under k q) (d + under k q) = T at *
    clear hxc hh hygt hokq hyn hyl hyk
    obtain ⟨i0, hi0, hz0, hz1, hz2⟩ := info_parts info_termG
    have hq4 : q + 1 ≤ maxLen := by unfold maxLen; omega
    have hqb : (q + 1) * 40 ≤ 140737488355328 := by omega
    go_wp2_with (go_at_call 76; refine (under_any k q _).mono ?_; rintro e2 w2 ⟨rfl, rfl⟩)
    have HT12 : ∀ w' : World, (fun w' : World => w'.cell? ⟨w.heap.size + 1 + 1 + 1, 2, none⟩ = some (.slice va q vc) ∧ (((w.heap.size < w'.heap.size ∧ bb < w'.heap.size) ∧ w'.cell? ⟨w.heap.size, 0, none⟩ = some (.int .i64 k) ∧ w'.cell? ⟨w.heap.size, 2, none⟩ = some (.slice (some ⟨bb, o, none⟩) l.length cap) ∧ w'.cell? ⟨bb, o + q * 3, none⟩ = some (.int .i64 y.kind) ∧ w'.cell? ⟨bb, o + q * 3 + 1, none⟩ = some (.int .i64 y.num) ∧ w'.cell? ⟨bb, o + q * 3 + 2, none⟩ = some (.slice sa y.kids.length sc)) ∧ (w.heap.size + 1 < w'.heap.size ∧ w'.cell? ⟨w.heap.size + 1, 0, none⟩ = some (.int .i64 u.kind) ∧ w'.cell? ⟨w.heap.size + 1, 1, none⟩ = some (.int .i64 u.num) ∧ w'.cell? ⟨w.heap.size + 1, 2, none⟩ = some (.slice ua u.kids.length ucap)))) w' → (fun w' : World => ((w.heap.size < w'.heap.size ∧ bb < w'.heap.size) ∧ w'.cell? ⟨w.heap.size, 0, none⟩ = some (.int .i64 k) ∧ w'.cell? ⟨w.heap.size, 2, none⟩ = some (.slice (some ⟨bb, o, none⟩) l.length cap) ∧ w'.cell? ⟨bb, o + q * 3, none⟩ = some (.int .i64 y.kind) ∧ w'.cell? ⟨bb, o + q * 3 + 1, none⟩ = some (.int .i64 y.num) ∧ w'.cell? ⟨bb, o + q * 3 + 2, none⟩ = some (.slice sa y.kids.length sc)) ∧ (w.heap.size + 1 < w'.heap.size ∧ w'.cell? ⟨w.heap.size + 1, 0, none⟩ = some (.int .i64 u.kind) ∧ w'.cell? ⟨w.heap.size + 1, 1, none⟩ = some (.int .i64 u.num) ∧ w'.cell? ⟨w.heap.size + 1, 2, none⟩ = some (.slice ua u.kids.length ucap))) w' := fun w' h => h.2
    refine AnyTwo.begin (fun w' : World => w'.cell? ⟨w.heap.size + 1 + 1 + 1, 2, none⟩ = some (.slice va q vc) ∧ (((w.heap.size < w'.heap.size ∧ bb < w'.heap.size) ∧ w'.cell? ⟨w.heap.size, 0, none⟩ = some (.int .i64 k) ∧ w'.cell? ⟨w.heap.size, 2, none⟩ = some (.slice (some ⟨bb, o, none⟩) l.length cap) ∧ w'.cell? ⟨bb, o + q * 3, none⟩ = some (.int .i64 y.kind) ∧ w'.cell? ⟨bb, o + q * 3 + 1, none⟩ = some (.int .i64 y.num) ∧ w'.cell? ⟨bb, o + q * 3 + 2, none⟩ = some (.slice sa y.kids.length sc)) ∧ (w.heap.size + 1 < w'.heap.size ∧ w'.cell? ⟨w.heap.size + 1, 0, none⟩ = some (.int .i64 u.kind) ∧ w'.cell? ⟨w.heap.size + 1, 1, none⟩ = some (.int .i64 u.num) ∧ w'.cell? ⟨w.heap.size + 1, 2, none⟩ = some (.slice ua u.kids.length ucap)))) (fun w' : World => ((w.heap.size < w'.heap.size ∧ bb < w'.heap.size) ∧ w'.cell? ⟨w.heap.size, 0, none⟩ = some (.int .i64 k) ∧ w'.cell? ⟨w.heap.size, 2, none⟩ = some (.slice (some ⟨bb, o, none⟩) l.length cap) ∧ w'.cell? ⟨bb, o + q * 3, none⟩ = some (.int .i64 y.kind) ∧ w'.cell? ⟨bb, o + q * 3 + 1, none⟩ = some (.int .i64 y.num) ∧ w'.cell? ⟨bb, o + q * 3 + 2, none⟩ = some (.slice sa y.kids.length sc)) ∧ (w.heap.size + 1 < w'.heap.size ∧ w'.cell? ⟨w.heap.size + 1, 0, none⟩ = some (.int .i64 u.kind) ∧ w'.cell? ⟨w.heap.size + 1, 1, none⟩ = some (.int .i64 u.num) ∧ w'.cell? ⟨w.heap.size + 1, 2, none⟩ = some (.slice ua u.kids.length ucap))) 16 (by kernel_rfl) ?_
    have hS1 : (fun w' : World => w'.cell? ⟨w.heap.size + 1 + 1 + 1, 2, none⟩ = some (.slice va q vc) ∧ (((w.heap.size < w'.heap.size ∧ bb < w'.heap.size) ∧ w'.cell? ⟨w.heap.size, 0, none⟩ = some (.int .i64 k) ∧ w'.cell? ⟨w.heap.size, 2, none⟩ = some (.slice (some ⟨bb, o, none⟩) l.length cap) ∧ w'.cell? ⟨bb, o + q * 3, none⟩ = some (.int .i64 y.kind) ∧ w'.cell? ⟨bb, o + q * 3 + 1, none⟩ = some (.int .i64 y.num) ∧ w'.cell? ⟨bb, o + q * 3 + 2, none⟩ = some (.slice sa y.kids.length sc)) ∧ (w.heap.size + 1 < w'.heap.size ∧ w'.cell? ⟨w.heap.size + 1, 0, none⟩ = some (.int .i64 u.kind) ∧ w'.cell? ⟨w.heap.size + 1, 1, none⟩ = some (.int .i64 u.num) ∧ w'.cell? ⟨w.heap.size + 1, 2, none⟩ = some (.slice ua u.kids.length ucap)))) wr.drew := ⟨c72, HX0'.out⟩
    refine AnyTwo.tk HT12 (i := 0) (oi := ⟨some 53, _, _, _, _, _⟩) rfl (ph_one (by kernel_rfl) hS1) ?_
    try simp only [pts]
    refine AnyTwo.take (i := 1) (oi := ⟨some 54, _, _, _, _, _⟩) (v := ?vb1) rfl (by kernel_rfl) (by kernel_rfl) (by decide +kernel) (by kernel_rfl) (by rfl) (by kernel_rfl) (fun _ _ _ h => h) (Or.inl ⟨by rfl, ?yb1⟩) hS1 ?rb1
    case yb1 => (intro w hSw; (try dsimp only at hSw); go_simp; try (with_reducible rfl))
    try simp only [pts]
    refine AnyTwo.tk HT12 (i := 2) (oi := ⟨some 55, _, _, _, _, _⟩) rfl (ph_one (by kernel_rfl) hS1) ?_
    try simp only [pts]
    refine AnyTwo.tk HT12 (i := 3) (oi := ⟨some 56, _, _, _, _, _⟩) rfl (ph_one (by kernel_rfl) hS1) ?_
    try simp only [pts]
    refine AnyTwo.tk HT12 (i := 4) (oi := ⟨some 57, _, _, _, _, _⟩) rfl (ph_one (by kernel_rfl) hS1) ?_
    try simp only [pts]
    refine AnyTwo.tk HT12 (i := 5) (oi := ⟨some 58, _, _, _, _, _⟩) rfl (ph_one (by kernel_rfl) hS1) ?_
    try simp only [pts]
    refine AnyTwo.tk HT12 (i := 6) (oi := ⟨some 59, _, _, _, _, _⟩) rfl (ph_one (by kernel_rfl) hS1) ?_
    try simp only [pts]
    refine AnyTwo.tk HT12 (i := 7) (oi := ⟨some 60, _, _, _, _, _⟩) rfl (ph_one (by kernel_rfl) hS1) ?_
    try simp only [pts]
    refine AnyTwo.tk HT12 (i := 8) (oi := ⟨some 61, _, _, _, _, _⟩) rfl (ph_one (by kernel_rfl) hS1) ?_
    try simp only [pts]
    refine AnyTwo.tk HT12 (i := 9) (oi := ⟨some 62, _, _, _, _, _⟩) rfl (ph_one (by kernel_rfl) hS1) ?_
    try simp only [pts]
    refine AnyTwo.tk HT12 (i := 10) (oi := ⟨some 63, _, _, _, _, _⟩) rfl (ph_one (by kernel_rfl) hS1) ?_
    try simp only [pts]
    refine AnyTwo.tk HT12 (i := 11) (oi := ⟨some 64, _, _, _, _, _⟩) rfl (ph_one (by kernel_rfl) hS1) ?_
    try simp only [pts]
    refine AnyTwo.tk HT12 (i := 12) (oi := ⟨some 65, _, _, _, _, _⟩) rfl (ph_one (by kernel_rfl) hS1) ?_
    try simp only [pts]
    refine AnyTwo.tk HT12 (i := 13) (oi := ⟨some 66, _, _, _, _, _⟩) rfl (ph_one (by kernel_rfl) hS1) ?_
    try simp only [pts]
    refine AnyTwo.step (i := 14) (o := ⟨some 67, _, _, _, _, _⟩) (by kernel_rfl) rfl (fun K hK => ?_)
    go_simp
    refine (HIQ.out _ _ _ (HS2.out.below (bAfter HB.out (Below.refl _ _).drew)) (HU.out.below (bAfter HB.out (Below.refl _ _).drew))).mono ?_
    rintro e3 w3 ⟨hb3, tv, rfl, ts, F2, rfl, hs2, hn2, hF2⟩
    obtain ⟨ta, tc, rfl⟩ := hs2.form
    have hbd := bAfter (Below.refl wr.heap.size wr).drew hb3
    have HX3 := tuck (hold4_below HX0.out hbd)
    have hx3 := HX3.out
    unfold g4x at hx3
    have HBD := tuck hbd
    have HV7 := tuck (HY7.out.below hbd)
    obtain ⟨z7', d70, d71, d72, d7f⟩ := HV7.out.facts
    have HX4 := tuck (hold4_below HX3.out (below1 w3 (.cells #[.int .i64 T.kind, .int .i64 T.num, .slice ta T.kids.length tc] 25)))
    have hx4 := HX4.out
    unfold g4x at hx4
    have HRG4 := tuck ((HRG.out.below hbd).below (below1 w3 (.cells #[.int .i64 T.kind, .int .i64 T.num, .slice ta T.kids.length tc] 25)))
    obtain ⟨xs, hox, hpush⟩ := HRG4.out.grow hLq
    have HOX := tuck hox
    have HPUSH := tuck hpush
    have HS3 := tuck (hs2.alloc (fun g hg => (hF2 g hg).2) (.cells #[.int .i64 T.kind, .int .i64 T.num, .slice ta T.kids.length tc] 25))
    have HN3 := tuck hn2
    have HF3 := tuck hF2
    have d72' := ((below1 w3 (.cells #[.int .i64 T.kind, .int .i64 T.num, .slice ta T.kids.length tc] 25)).cell (p := ⟨w.heap.size + 1 + 1 + 1, 2, none⟩) z7').trans d72
    have HZ4 : Hid (w.heap.size + 1 + 1 + 1 < (w3.alloc (.cells #[.int .i64 T.kind, .int .i64 T.num, .slice ta T.kids.length tc] 25)).heap.size) := tuck (Nat.lt_of_lt_of_le z7' (below1 w3 _).size)
    have HX3' := tuck hx3
    have HX4' := tuck hx4
    clear hox hpush hs2 hn2 hF2 hbd hb3 hx3 hx4
    have hS1' := And.intro d72 HX3'.out
    refine hK.out _ _ (ph_one (by kernel_rfl) hS1') ?_
    clear hK K hS1
    have hS1 := hS1'
    clear hS1'
    try simp only [pts]
    refine AnyTwo.step (i := 15) (o := ⟨some 68, _, _, _, _, _⟩) (by kernel_rfl) rfl (fun K hK => ?_)
    go_simp
    have hS1' := And.intro d72' HX4'.out
    refine hK.out _ _ (ph_one (by kernel_rfl) hS1') ?_
    clear hK K hS1
    have hS1 := hS1'
    clear hS1'
    try simp only [pts]
    refine AnyTwo.step (i := 16) (o := ⟨some 69, _, _, _, _, _⟩) (by kernel_rfl) rfl (fun K hK => ?_)
    refine step_append_lies _ (by rfl) _ _ _ (by rfl) (w.heap.size + 1 + 1 + 1 + 1) 25 i0 _ 3 40 Tryz.underlying23 hi0 hz0 hz1 hz2 rfl (by omega) _ _ _ (by rfl) HOX.out ⟨w3.heap.size, 0, none⟩ 1 1 [.int .i64 T.kind, .int .i64 T.num, .slice ta T.kids.length tc] (by rfl) (by rfl) (World.news_of_block (cs := #[.int .i64 T.kind, .int .i64 T.num, .slice ta T.kids.length tc]) (t := 25) (fr := (0, 0)) (heap_new w3 _)) (by simp [Value.oneCell']) (by omega) hq4 hqb (by simp; omega) (w3.heap.size + 1) (by simp) ?_
    intro gg gcap w4 hown4 hgrow hat hlt4
    have k70 := (hgrow.cell_far ⟨w.heap.size + 1 + 1 + 1, 2, none⟩ HZ4.out HB3.out.2.1).trans d72'
    have k7f := (hgrow.frozen_far ⟨w.heap.size + 1 + 1 + 1, 2, none⟩ HZ4.out HB3.out.2.1).trans (((below1 w3 _).frozen (p := ⟨w.heap.size + 1 + 1 + 1, 2, none⟩) z7').trans (d7f 2))
    have HX5 := tuck (hold4_grown HX4.out hgrow ⟨HB3.out.2.2.1, HB3.out.2.2.2.1⟩ HB3.out.2.2.2.2.2)
    have hx5 := HX5.out
    unfold g4x at hx5
    have HX5' := tuck hx5
    have hx6 := fun x : Value => hold4_set (x := x) HX5.out (p := ⟨w.heap.size + 1 + 1 + 1, 2, none⟩) (show w.heap.size + 1 + 1 + 1 ≠ w.heap.size by omega) (Ne.symm HB3.out.1) (show w.heap.size + 1 + 1 + 1 ≠ w.heap.size + 1 by omega)
    unfold g4x at hx6
    have HX6' := tuck hx6
    clear hx5 hx6
    refine hK.out _ _ (ph_end (by kernel_rfl) (HX5'.out)) ?_
    clear hK K
    try simp only [pts]
    refine AnyTwo.tk HT12 (i := 17) (oi := ⟨some 70, _, _, _, _, _⟩) rfl (ph_end (by kernel_rfl) HX5'.out) ?_
    try simp only [pts]
    refine AnyTwo.step (i := 18) (o := ⟨none, _, _, _, _, _⟩) (by kernel_rfl) rfl (fun K hK => ?_)
    go_simp
    refine hK.out _ _ (ph_end (by kernel_rfl) (HX6'.out _)) ?_
    clear hK K
    try simp only [pts]
    refine AnyTwo.done (by kernel_rfl) ?_ _
    have HZ3 : Hid (wr.heap.size ≤ w3.heap.size) := HBD.out.size
    clear d70 d71 d72 d7f z7' d72' hS1 HT12 k70 k7f HW1 HW2 hund
    go_wp2_with fail
    go_roundw
    case rel =>
     have hz3 := HZ3.out
     have hdr : wr.drew.heap.size = wr.heap.size := rfl
     have hb4 : Below wr.heap.size wr (w3.alloc (.cells #[.int .i64 T.kind, .int .i64 T.num, .slice ta T.kids.length tc] 25)) := bAfter HBD.out (below1 _ _)
     have hlt := HRG.out.lt
     have hflt := HRG.out.flt
     refine ⟨q + 1, .slice (some ⟨gg, 0, none⟩) (q + 1) gcap, F ++ F2, by omega, by go_num, ?_, ?_, ?_, ?_, ?_, ?_⟩
     ·exact ((bAfter HB.out hb4).grown hgrow (bAfter HB.out hb4).size (fun g hg => by have := (hlt g hg).1; omega)).setCell (by show w.heap.size ≤ w.heap.size + 1 + 1 + 1; omega) _
     ·exact ((HYU.out.below hb4).grown hgrow HB3.out.2.2.2.2.2).far (by show w.heap.size + 1 ≠ w.heap.size + 1 + 1 + 1; omega) _
     ·exact ((HY3.out.below hb4).grown hgrow HB3.out.2.2.1).far (by show w.heap.size ≠ w.heap.size + 1 + 1 + 1; omega) _
     ·exact ((HY6.out.below hb4).grown hgrow HB3.out.2.2.2.2.1).far (by show w.heap.size + 1 + 1 ≠ w.heap.size + 1 + 1 + 1; omega) _
     ·exact ((HY7.out.below hb4).grown hgrow HB3.out.2.1).set2
     ·rw [HTK.out]
      refine (HPUSH.out _ _ F2 w4 T HS3.out HN3.out (fun g hg => ?_) hown4 hgrow (hat.imp (fun h => h.symm) (fun h => by rw [h]; simp [Value.ownBlock]))).setCell (by show w.heap.size + 1 + 1 + 1 < w.heap.size + 1 + 1 + 1 + 1; omega) _
      have h1 := HF3.out g hg
      refine ⟨by omega, by simp; omega, fun hf => by have := (hflt g hf).2.1; omega, fun e => by have := (hlt g e).2; omega⟩
    case measure => simp [intOf]; omega
   ·have hge2 : ¬ ((q : Int) < (l.length : Int)) := by omega
    have e : q = l.length := by omega
    subst e
    obtain ⟨z6, c60, c61, c62, c6f⟩ := HY6.out.facts
    obtain ⟨G, hG, hGn, hGb⟩ := HRG.out.done (by rw [hLq]; unfold maxLen; omega)
    rw [List.take_length] at hG
    go_wp2_with fail
    refine bodyPost_ret (v := .agg #[.int .i64 k, .int .i64 ((n)), .slice va l.length vc]) (by simp [results, Tryz.results64, go_sem, *]) rfl (HPOST.out _ _ G ?_ ?_ hGn fun g hg => ?_)
    ·exact bSet3 HB.out (by omega) _ _ _ _ _ _
    ·exact hG.set3 (fun h => by have := (hGb _ h).1; omega) _ _ _ _ _ _
    ·rw [size_set3]
     have := hGb g hg
     omega
 ·rw [hNN] at HPOST
  clear hNN
  go_enter Tryz.func64, Tryz.ntmps64
  go_wp2_with fail
  have HBW0 := tuck (bAfter (below3 w (.cells #[.int .i64 k, .int .i64 n, .slice a l.length cap] 25) (.cells #[.int .i64 u.kind, .int .i64 u.num, .slice ua u.kids.length ucap] 25) (.cells #[.int .i64 0, .int .i64 0, .slice none 0 0] 25)) (below1 _ (.cells #[.int .i64 k, .int .i64 (n), .slice none 0 0] 25)))
  have HY3 := tuck ((((VarAt.new w k n (.slice a l.length cap)).below (below1 _ (.cells #[.int .i64 u.kind, .int .i64 u.num, .slice ua u.kids.length ucap] 25))).below (below1 _ (.cells #[.int .i64 0, .int .i64 0, .slice none 0 0] 25))).below (below1 _ (.cells #[.int .i64 k, .int .i64 (n), .slice none 0 0] 25)))
  have HYU := tuck (((var_new1 w (.cells #[.int .i64 k, .int .i64 n, .slice a l.length cap] 25) u.kind u.num (.slice ua u.kids.length ucap)).below (below1 _ (.cells #[.int .i64 0, .int .i64 0, .slice none 0 0] 25))).below (below1 _ (.cells #[.int .i64 k, .int .i64 (n), .slice none 0 0] 25)))
  have HY6 := tuck ((var_new2 w (.cells #[.int .i64 k, .int .i64 n, .slice a l.length cap] 25) (.cells #[.int .i64 u.kind, .int .i64 u.num, .slice ua u.kids.length ucap] 25) 0 0 (.slice none 0 0)).below (below1 _ (.cells #[.int .i64 k, .int .i64 (n), .slice none 0 0] 25)))
  have HY7 := tuck (var_new3 w (.cells #[.int .i64 k, .int .i64 n, .slice a l.length cap] 25) (.cells #[.int .i64 u.kind, .int .i64 u.num, .slice ua u.kids.length ucap] 25) (.cells #[.int .i64 0, .int .i64 0, .slice none 0 0] 25) k (n) (.slice none 0 0))
  have hbw0 : Below w.heap.size w ((((w.alloc (.cells #[.int .i64 k, .int .i64 n, .slice a l.length cap] 25)).alloc (.cells #[.int .i64 u.kind, .int .i64 u.num, .slice ua u.kids.length ucap] 25)).alloc (.cells #[.int .i64 0, .int .i64 0, .slice none 0 0] 25)).alloc (.cells #[.int .i64 k, .int .i64 (n), .slice none 0 0] 25)) := HBW0.out
  have hy3 : VarAt w.heap.size k n (.slice a l.length cap) ((((w.alloc (.cells #[.int .i64 k, .int .i64 n, .slice a l.length cap] 25)).alloc (.cells #[.int .i64 u.kind, .int .i64 u.num, .slice ua u.kids.length ucap] 25)).alloc (.cells #[.int .i64 0, .int .i64 0, .slice none 0 0] 25)).alloc (.cells #[.int .i64 k, .int .i64 (n), .slice none 0 0] 25)) := HY3.out
  have hyu : VarAt (w.heap.size + 1) u.kind u.num (.slice ua u.kids.length ucap) ((((w.alloc (.cells #[.int .i64 k, .int .i64 n, .slice a l.length cap] 25)).alloc (.cells #[.int .i64 u.kind, .int .i64 u.num, .slice ua u.kids.length ucap] 25)).alloc (.cells #[.int .i64 0, .int .i64 0, .slice none 0 0] 25)).alloc (.cells #[.int .i64 k, .int .i64 (n), .slice none 0 0] 25)) := HYU.out
  have hy6 : VarAt (w.heap.size + 1 + 1) 0 0 (.slice none 0 0) ((((w.alloc (.cells #[.int .i64 k, .int .i64 n, .slice a l.length cap] 25)).alloc (.cells #[.int .i64 u.kind, .int .i64 u.num, .slice ua u.kids.length ucap] 25)).alloc (.cells #[.int .i64 0, .int .i64 0, .slice none 0 0] 25)).alloc (.cells #[.int .i64 k, .int .i64 (n), .slice none 0 0] 25)) := HY6.out
  have hy7 : VarAt (w.heap.size + 1 + 1 + 1) k (n) (.slice none 0 0) ((((w.alloc (.cells #[.int .i64 k, .int .i64 n, .slice a l.length cap] 25)).alloc (.cells #[.int .i64 u.kind, .int .i64 u.num, .slice ua u.kids.length ucap] 25)).alloc (.cells #[.int .i64 0, .int .i64 0, .slice none 0 0] 25)).alloc (.cells #[.int .i64 k, .int .i64 (n), .slice none 0 0] 25)) := HY7.out
  clear HBW0 HY3 HY6 HY7 HYU
  generalize ((((w.alloc (.cells #[.int .i64 k, .int .i64 n, .slice a l.length cap] 25)).alloc (.cells #[.int .i64 u.kind, .int .i64 u.num, .slice ua u.kids.length ucap] 25)).alloc (.cells #[.int .i64 0, .int .i64 0, .slice none 0 0] 25)).alloc (.cells #[.int .i64 k, .int .i64 (n), .slice none 0 0] 25)) = W0 at *
  have HBW0 := tuck hbw0
  have HY3 := tuck hy3
  have HY6 := tuck hy6
  have HY7 := tuck hy7
  have HYU := tuck hyu
  clear hbw0 hy3 hy6 hy7 hyu g1
  try clear g3
  try clear g2
  go_loopw [10] (fun i wr => ∃ (q : Nat) (vl : Value) (F : List Nat), q ≤ l.length ∧ i = .int .i64 q ∧ Below w.heap.size w wr ∧ VarAt (w.heap.size + 1) u.kind u.num (.slice ua u.kids.length ucap) wr ∧ VarAt w.heap.size k n (.slice a l.length cap) wr ∧ VarAt (w.heap.size + 1 + 1) 0 0 (.slice none 0 0) wr ∧ VarAt (w.heap.size + 1 + 1 + 1) k (n) vl wr ∧ RowG (w.heap.size + 1 + 1 + 1 + 1) (substL u k (l.take q) 0 x d) vl F wr) (fun i _ => l.length - (intOf i).toNat)
  case atStart => exact ⟨0, _, [], Nat.zero_le _, rfl, HBW0.out, HYU.out, HY3.out, HY6.out, HY7.out, RowG.nil _ _⟩
  case round =>
   obtain ⟨q, vl, F, hq, rfl, hb, hyu, hy3, hy6, hy7, hrg⟩ := hrel
   have HYU := tuck hyu
   have HB := tuck hb
   have HY3 := tuck hy3
   have HY6 := tuck hy6
   have HY7 := tuck hy7
   have HRG := tuck hrg
   clear hb hyu hy3 hy6 hy7 hrg HBW0
   have hLq : (substL u k (l.take q) 0 x d).length = q := by rw [substL_length, List.length_take]; omega
   obtain ⟨va, vc, rfl⟩ := HRG.out.form' hLq
   obtain ⟨z3, a0, a1, a2, a3f⟩ := HY3.out.facts
   obtain ⟨z7, c70, c71, c72, c7f⟩ := HY7.out.facts
   by_cases hlt : q < l.length
   ·have hlti : ((q : Int) < (l.length : Int)) := by omega
    have hqi : (0 : Int) ≤ (q : Int) := by omega
    have hh := mem_hgts' hlt
    have hund := under_01 k q
    have HTK := tuck (substL_take u k x d hlt)
    have hokq : l[q].allOk := HOK.out _ (List.getElem_mem hlt)
    obtain ⟨rfl, _, hbw⟩ := HP.out (by intro e; rw [e] at hlt; simp at hlt)
    obtain ⟨s, c0, c1, c2, hs⟩ := HC.out q hlt
    obtain ⟨sa, sc, rfl⟩ := hs.form
    replace c0 := (HB.out.cell (p := ⟨bb, o + q * 3, none⟩) hbw).trans c0
    replace c1 := (HB.out.cell (p := ⟨bb, o + q * 3 + 1, none⟩) hbw).trans c1
    replace c2 := (HB.out.cell (p := ⟨bb, o + q * 3 + 2, none⟩) hbw).trans c2
    have hbr : bb < wr.heap.size := World.block_lt_of_cell? wr _ c0
    have HS2 := tuck hs
    have HI' := tuck (HI.out q hlt l[q].kind l[q].num)
    rw [Tm.eta] at HI'
    clear hs HI
    generalize l[q] = y at *
    have hyn := root_num2 (y.allOk_iff.1 hokq).1
    have hyl := root_len (y.allOk_iff.1 hokq).1
    have hyk : ∀ t ∈ y.kids, t.allOk := (allsOk_iff _).1 (y.allOk_iff.1 hokq).2
    have hygt := y.hgt_eq
    have HYN := tuck hyn
    have HYL := tuck hyl
    have HYK := tuck hyk
    have HB3 : Hid (bb ≠ w.heap.size + 1 + 1 + 1 ∧ some (w.heap.size + 1 + 1 + 1) ≠ (Value.slice va q vc).ownBlock ∧ some (w.heap.size) ≠ (Value.slice va q vc).ownBlock ∧ some bb ≠ (Value.slice va q vc).ownBlock ∧ some (w.heap.size + 1 + 1) ≠ (Value.slice va q vc).ownBlock ∧ some (w.heap.size + 1) ≠ (Value.slice va q vc).ownBlock) := by
     have hlo := HRG.out.lt
     refine ⟨by omega, fun e => ?_, fun e => ?_, fun e => ?_, fun e => ?_, fun e => ?_⟩ <;> (have := (hlo _ e.symm).1; omega)
    obtain ⟨zu, u0, u1, u2, uf⟩ := HYU.out.facts
    have hx0 : g4x wr (w.heap.size) bb (o + q * 3) k (.slice (some ⟨bb, o, none⟩) l.length cap) (.slice sa y.kids.length sc) y.kind y.num (w.heap.size + 1) u.kind u.num (.slice ua u.kids.length ucap) := ⟨⟨⟨z3, hbr⟩, a0, a2, c0, c1, c2⟩, zu, u0, u1, u2⟩
    have HX0 := tuck hx0
    unfold g4x at hx0
    have HX0' := tuck hx0
    clear hx0
    have hxc : 0 ≤ x + under k q ∧ x + under k q + hgts y.kids ≤ 2000 ∧ 0 ≤ d + under k q ∧ d + under k q + hgts y.kids ≤ 1000 := by omega
    have HXC := tuck hxc
    have HW1 : IntKind.i64.wrap (x + under k q) = x + under k q := IntWalk.i64_in _ (by omega)
    have HW2 : IntKind.i64.wrap (d + under k q) = d + under k q := IntWalk.i64_in _ (by omega)
    have HIQ := tuck (fun w' s' s2 (h' : SlIn w' 0 y.kids s') (h2 : SlIn w' 0 u.kids s2) => HI'.out (x + under k q) (d + under k q) w' s' s2 (by have := HYN.out; omega) (by have := HYN.out; omega) HXC.out.1 HXC.out.2.1 HXC.out.2.2.1 HXC.out.2.2.2 (by have := HYL.out; omega) HYK.out h' h2)
    clear HI'
    generalize y.subst u (x + under k q) (d + under k q) = T at *
    clear hxc hh hygt hokq hyn hyl hyk
    obtain ⟨i0, hi0, hz0, hz1, hz2⟩ := info_parts info_termG
    have hq4 : q + 1 ≤ maxLen := by unfold maxLen; omega
    have hqb : (q + 1) * 40 ≤ 140737488355328 := by omega
    go_wp2_with (go_at_call 76; refine (under_any k q _).mono ?_; rintro e2 w2 ⟨rfl, rfl⟩)
    have HT12 : ∀ w' : World, (fun w' : World => w'.cell? ⟨w.heap.size + 1 + 1 + 1, 2, none⟩ = some (.slice va q vc) ∧ (((w.heap.size < w'.heap.size ∧ bb < w'.heap.size) ∧ w'.cell? ⟨w.heap.size, 0, none⟩ = some (.int .i64 k) ∧ w'.cell? ⟨w.heap.size, 2, none⟩ = some (.slice (some ⟨bb, o, none⟩) l.length cap) ∧ w'.cell? ⟨bb, o + q * 3, none⟩ = some (.int .i64 y.kind) ∧ w'.cell? ⟨bb, o + q * 3 + 1, none⟩ = some (.int .i64 y.num) ∧ w'.cell? ⟨bb, o + q * 3 + 2, none⟩ = some (.slice sa y.kids.length sc)) ∧ (w.heap.size + 1 < w'.heap.size ∧ w'.cell? ⟨w.heap.size + 1, 0, none⟩ = some (.int .i64 u.kind) ∧ w'.cell? ⟨w.heap.size + 1, 1, none⟩ = some (.int .i64 u.num) ∧ w'.cell? ⟨w.heap.size + 1, 2, none⟩ = some (.slice ua u.kids.length ucap)))) w' → (fun w' : World => ((w.heap.size < w'.heap.size ∧ bb < w'.heap.size) ∧ w'.cell? ⟨w.heap.size, 0, none⟩ = some (.int .i64 k) ∧ w'.cell? ⟨w.heap.size, 2, none⟩ = some (.slice (some ⟨bb, o, none⟩) l.length cap) ∧ w'.cell? ⟨bb, o + q * 3, none⟩ = some (.int .i64 y.kind) ∧ w'.cell? ⟨bb, o + q * 3 + 1, none⟩ = some (.int .i64 y.num) ∧ w'.cell? ⟨bb, o + q * 3 + 2, none⟩ = some (.slice sa y.kids.length sc)) ∧ (w.heap.size + 1 < w'.heap.size ∧ w'.cell? ⟨w.heap.size + 1, 0, none⟩ = some (.int .i64 u.kind) ∧ w'.cell? ⟨w.heap.size + 1, 1, none⟩ = some (.int .i64 u.num) ∧ w'.cell? ⟨w.heap.size + 1, 2, none⟩ = some (.slice ua u.kids.length ucap))) w' := fun w' h => h.2
    refine AnyTwo.begin (fun w' : World => w'.cell? ⟨w.heap.size + 1 + 1 + 1, 2, none⟩ = some (.slice va q vc) ∧ (((w.heap.size < w'.heap.size ∧ bb < w'.heap.size) ∧ w'.cell? ⟨w.heap.size, 0, none⟩ = some (.int .i64 k) ∧ w'.cell? ⟨w.heap.size, 2, none⟩ = some (.slice (some ⟨bb, o, none⟩) l.length cap) ∧ w'.cell? ⟨bb, o + q * 3, none⟩ = some (.int .i64 y.kind) ∧ w'.cell? ⟨bb, o + q * 3 + 1, none⟩ = some (.int .i64 y.num) ∧ w'.cell? ⟨bb, o + q * 3 + 2, none⟩ = some (.slice sa y.kids.length sc)) ∧ (w.heap.size + 1 < w'.heap.size ∧ w'.cell? ⟨w.heap.size + 1, 0, none⟩ = some (.int .i64 u.kind) ∧ w'.cell? ⟨w.heap.size + 1, 1, none⟩ = some (.int .i64 u.num) ∧ w'.cell? ⟨w.heap.size + 1, 2, none⟩ = some (.slice ua u.kids.length ucap)))) (fun w' : World => ((w.heap.size < w'.heap.size ∧ bb < w'.heap.size) ∧ w'.cell? ⟨w.heap.size, 0, none⟩ = some (.int .i64 k) ∧ w'.cell? ⟨w.heap.size, 2, none⟩ = some (.slice (some ⟨bb, o, none⟩) l.length cap) ∧ w'.cell? ⟨bb, o + q * 3, none⟩ = some (.int .i64 y.kind) ∧ w'.cell? ⟨bb, o + q * 3 + 1, none⟩ = some (.int .i64 y.num) ∧ w'.cell? ⟨bb, o + q * 3 + 2, none⟩ = some (.slice sa y.kids.length sc)) ∧ (w.heap.size + 1 < w'.heap.size ∧ w'.cell? ⟨w.heap.size + 1, 0, none⟩ = some (.int .i64 u.kind) ∧ w'.cell? ⟨w.heap.size + 1, 1, none⟩ = some (.int .i64 u.num) ∧ w'.cell? ⟨w.heap.size + 1, 2, none⟩ = some (.slice ua u.kids.length ucap))) 16 (by kernel_rfl) ?_
    have hS1 : (fun w' : World => w'.cell? ⟨w.heap.size + 1 + 1 + 1, 2, none⟩ = some (.slice va q vc) ∧ (((w.heap.size < w'.heap.size ∧ bb < w'.heap.size) ∧ w'.cell? ⟨w.heap.size, 0, none⟩ = some (.int .i64 k) ∧ w'.cell? ⟨w.heap.size, 2, none⟩ = some (.slice (some ⟨bb, o, none⟩) l.length cap) ∧ w'.cell? ⟨bb, o + q * 3, none⟩ = some (.int .i64 y.kind) ∧ w'.cell? ⟨bb, o + q * 3 + 1, none⟩ = some (.int .i64 y.num) ∧ w'.cell? ⟨bb, o + q * 3 + 2, none⟩ = some (.slice sa y.kids.length sc)) ∧ (w.heap.size + 1 < w'.heap.size ∧ w'.cell? ⟨w.heap.size + 1, 0, none⟩ = some (.int .i64 u.kind) ∧ w'.cell? ⟨w.heap.size + 1, 1, none⟩ = some (.int .i64 u.num) ∧ w'.cell? ⟨w.heap.size + 1, 2, none⟩ = some (.slice ua u.kids.length ucap)))) wr.drew := ⟨c72, HX0'.out⟩
    refine AnyTwo.tk HT12 (i := 0) (oi := ⟨some 53, _, _, _, _, _⟩) rfl (ph_one (by kernel_rfl) hS1) ?_
    try simp only [pts]
    refine AnyTwo.take (i := 1) (oi := ⟨some 54, _, _, _, _, _⟩) (v := ?vc1) rfl (by kernel_rfl) (by kernel_rfl) (by decide +kernel) (by kernel_rfl) (by rfl) (by kernel_rfl) (fun _ _ _ h => h) (Or.inl ⟨by rfl, ?yc1⟩) hS1 ?rc1
    case yc1 => (intro w hSw; (try dsimp only at hSw); go_simp; try (with_reducible rfl))
    try simp only [pts]
    refine AnyTwo.tk HT12 (i := 2) (oi := ⟨some 55, _, _, _, _, _⟩) rfl (ph_one (by kernel_rfl) hS1) ?_
    try simp only [pts]
    refine AnyTwo.tk HT12 (i := 3) (oi := ⟨some 56, _, _, _, _, _⟩) rfl (ph_one (by kernel_rfl) hS1) ?_
    try simp only [pts]
    refine AnyTwo.tk HT12 (i := 4) (oi := ⟨some 57, _, _, _, _, _⟩) rfl (ph_one (by kernel_rfl) hS1) ?_
    try simp only [pts]
    refine AnyTwo.tk HT12 (i := 5) (oi := ⟨some 58, _, _, _, _, _⟩) rfl (ph_one (by kernel_rfl) hS1) ?_
    try simp only [pts]
    refine AnyTwo.tk HT12 (i := 6) (oi := ⟨some 59, _, _, _, _, _⟩) rfl (ph_one (by kernel_rfl) hS1) ?_
    try simp only [pts]
    refine AnyTwo.tk HT12 (i := 7) (oi := ⟨some 60, _, _, _, _, _⟩) rfl (ph_one (by kernel_rfl) hS1) ?_
    try simp only [pts]
    refine AnyTwo.tk HT12 (i := 8) (oi := ⟨some 61, _, _, _, _, _⟩) rfl (ph_one (by kernel_rfl) hS1) ?_
    try simp only [pts]
    refine AnyTwo.tk HT12 (i := 9) (oi := ⟨some 62, _, _, _, _, _⟩) rfl (ph_one (by kernel_rfl) hS1) ?_
    try simp only [pts]
    refine AnyTwo.tk HT12 (i := 10) (oi := ⟨some 63, _, _, _, _, _⟩) rfl (ph_one (by kernel_rfl) hS1) ?_
    try simp only [pts]
    refine AnyTwo.tk HT12 (i := 11) (oi := ⟨some 64, _, _, _, _, _⟩) rfl (ph_one (by kernel_rfl) hS1) ?_
    try simp only [pts]
    refine AnyTwo.tk HT12 (i := 12) (oi := ⟨some 65, _, _, _, _, _⟩) rfl (ph_one (by kernel_rfl) hS1) ?_
    try simp only [pts]
    refine AnyTwo.tk HT12 (i := 13) (oi := ⟨some 66, _, _, _, _, _⟩) rfl (ph_one (by kernel_rfl) hS1) ?_
    try simp only [pts]
    refine AnyTwo.step (i := 14) (o := ⟨some 67, _, _, _, _, _⟩) (by kernel_rfl) rfl (fun K hK => ?_)
    go_simp
    refine (HIQ.out _ _ _ (HS2.out.below (bAfter HB.out (Below.refl _ _).drew)) (HU.out.below (bAfter HB.out (Below.refl _ _).drew))).mono ?_
    rintro e3 w3 ⟨hb3, tv, rfl, ts, F2, rfl, hs2, hn2, hF2⟩
    obtain ⟨ta, tc, rfl⟩ := hs2.form
    have hbd := bAfter (Below.refl wr.heap.size wr).drew hb3
    have HX3 := tuck (hold4_below HX0.out hbd)
    have hx3 := HX3.out
    unfold g4x at hx3
    have HBD := tuck hbd
    have HV7 := tuck (HY7.out.below hbd)
    obtain ⟨z7', d70, d71, d72, d7f⟩ := HV7.out.facts
    have HX4 := tuck (hold4_below HX3.out (below1 w3 (.cells #[.int .i64 T.kind, .int .i64 T.num, .slice ta T.kids.length tc] 25)))
    have hx4 := HX4.out
    unfold g4x at hx4
    have HRG4 := tuck ((HRG.out.below hbd).below (below1 w3 (.cells #[.int .i64 T.kind, .int .i64 T.num, .slice ta T.kids.length tc] 25)))
    obtain ⟨xs, hox, hpush⟩ := HRG4.out.grow hLq
    have HOX := tuck hox
    have HPUSH := tuck hpush
    have HS3 := tuck (hs2.alloc (fun g hg => (hF2 g hg).2) (.cells #[.int .i64 T.kind, .int .i64 T.num, .slice ta T.kids.length tc] 25))
    have HN3 := tuck hn2
    have HF3 := tuck hF2
    have d72' := ((below1 w3 (.cells #[.int .i64 T.kind, .int .i64 T.num, .slice ta T.kids.length tc] 25)).cell (p := ⟨w.heap.size + 1 + 1 + 1, 2, none⟩) z7').trans d72
    have HZ4 : Hid (w.heap.size + 1 + 1 + 1 < (w3.alloc (.cells #[.int .i64 T.kind, .int .i64 T.num, .slice ta T.kids.length tc] 25)).heap.size) := tuck (Nat.lt_of_lt_of_le z7' (below1 w3 _).size)
    have HX3' := tuck hx3
    have HX4' := tuck hx4
    clear hox hpush hs2 hn2 hF2 hbd hb3 hx3 hx4
    have hS1' := And.intro d72 HX3'.out
    refine hK.out _ _ (ph_one (by kernel_rfl) hS1') ?_
    clear hK K hS1
    have hS1 := hS1'
    clear hS1'
    try simp only [pts]
    refine AnyTwo.step (i := 15) (o := ⟨some 68, _, _, _, _, _⟩) (by kernel_rfl) rfl (fun K hK => ?_)
    go_simp
    have hS1' := And.intro d72' HX4'.out
    refine hK.out _ _ (ph_one (by kernel_rfl) hS1') ?_
    clear hK K hS1
    have hS1 := hS1'
    clear hS1'
    try simp only [pts]
    refine AnyTwo.step (i := 16) (o := ⟨some 69, _, _, _, _, _⟩) (by kernel_rfl) rfl (fun K hK => ?_)
    refine step_append_lies _ (by rfl) _ _ _ (by rfl) (w.heap.size + 1 + 1 + 1 + 1) 25 i0 _ 3 40 Tryz.underlying23 hi0 hz0 hz1 hz2 rfl (by omega) _ _ _ (by rfl) HOX.out ⟨w3.heap.size, 0, none⟩ 1 1 [.int .i64 T.kind, .int .i64 T.num, .slice ta T.kids.length tc] (by rfl) (by rfl) (World.news_of_block (cs := #[.int .i64 T.kind, .int .i64 T.num, .slice ta T.kids.length tc]) (t := 25) (fr := (0, 0)) (heap_new w3 _)) (by simp [Value.oneCell']) (by omega) hq4 hqb (by simp; omega) (w3.heap.size + 1) (by simp) ?_
    intro gg gcap w4 hown4 hgrow hat hlt4
    have k70 := (hgrow.cell_far ⟨w.heap.size + 1 + 1 + 1, 2, none⟩ HZ4.out HB3.out.2.1).trans d72'
    have k7f := (hgrow.frozen_far ⟨w.heap.size + 1 + 1 + 1, 2, none⟩ HZ4.out HB3.out.2.1).trans (((below1 w3 _).frozen (p := ⟨w.heap.size + 1 + 1 + 1, 2, none⟩) z7').trans (d7f 2))
    have HX5 := tuck (hold4_grown HX4.out hgrow ⟨HB3.out.2.2.1, HB3.out.2.2.2.1⟩ HB3.out.2.2.2.2.2)
    have hx5 := HX5.out
    unfold g4x at hx5
    have HX5' := tuck hx5
    have hx6 := fun x : Value => hold4_set (x := x) HX5.out (p := ⟨w.heap.size + 1 + 1 + 1, 2, none⟩) (show w.heap.size + 1 + 1 + 1 ≠ w.heap.size by omega) (Ne.symm HB3.out.1) (show w.heap.size + 1 + 1 + 1 ≠ w.heap.size + 1 by omega)
    unfold g4x at hx6
    have HX6' := tuck hx6
    clear hx5 hx6
    refine hK.out _ _ (ph_end (by kernel_rfl) (HX5'.out)) ?_
    clear hK K
    try simp only [pts]
    refine AnyTwo.tk HT12 (i := 17) (oi := ⟨some 70, _, _, _, _, _⟩) rfl (ph_end (by kernel_rfl) HX5'.out) ?_
    try simp only [pts]
    refine AnyTwo.step (i := 18) (o := ⟨none, _, _, _, _, _⟩) (by kernel_rfl) rfl (fun K hK => ?_)
    go_simp
    refine hK.out _ _ (ph_end (by kernel_rfl) (HX6'.out _)) ?_
    clear hK K
    try simp only [pts]
    refine AnyTwo.done (by kernel_rfl) ?_ _
    have HZ3 : Hid (wr.heap.size ≤ w3.heap.size) := HBD.out.size
    clear d70 d71 d72 d7f z7' d72' hS1 HT12 k70 k7f HW1 HW2 hund
    go_wp2_with fail
    go_roundw
    case rel =>
     have hz3 := HZ3.out
     have hdr : wr.drew.heap.size = wr.heap.size := rfl
     have hb4 : Below wr.heap.size wr (w3.alloc (.cells #[.int .i64 T.kind, .int .i64 T.num, .slice ta T.kids.length tc] 25)) := bAfter HBD.out (below1 _ _)
     have hlt := HRG.out.lt
     have hflt := HRG.out.flt
     refine ⟨q + 1, .slice (some ⟨gg, 0, none⟩) (q + 1) gcap, F ++ F2, by omega, by go_num, ?_, ?_, ?_, ?_, ?_, ?_⟩
     ·exact ((bAfter HB.out hb4).grown hgrow (bAfter HB.out hb4).size (fun g hg => by have := (hlt g hg).1; omega)).setCell (by show w.heap.size ≤ w.heap.size + 1 + 1 + 1; omega) _
     ·exact ((HYU.out.below hb4).grown hgrow HB3.out.2.2.2.2.2).far (by show w.heap.size + 1 ≠ w.heap.size + 1 + 1 + 1; omega) _
     ·exact ((HY3.out.below hb4).grown hgrow HB3.out.2.2.1).far (by show w.heap.size ≠ w.heap.size + 1 + 1 + 1; omega) _
     ·exact ((HY6.out.below hb4).grown hgrow HB3.out.2.2.2.2.1).far (by show w.heap.size + 1 + 1 ≠ w.heap.size + 1 + 1 + 1; omega) _
     ·exact ((HY7.out.below hb4).grown hgrow HB3.out.2.1).set2
     ·rw [HTK.out]
      refine (HPUSH.out _ _ F2 w4 T HS3.out HN3.out (fun g hg => ?_) hown4 hgrow (hat.imp (fun h => h.symm) (fun h => by rw [h]; simp [Value.ownBlock]))).setCell (by show w.heap.size + 1 + 1 + 1 < w.heap.size + 1 + 1 + 1 + 1; omega) _
      have h1 := HF3.out g hg
      refine ⟨by omega, by simp; omega, fun hf => by have := (hflt g hf).2.1; omega, fun e => by have := (hlt g e).2; omega⟩
    case measure => simp [intOf]; omega
   ·have hge2 : ¬ ((q : Int) < (l.length : Int)) := by omega
    have e : q = l.length := by omega
    subst e
    obtain ⟨z6, c60, c61, c62, c6f⟩ := HY6.out.facts
    obtain ⟨G, hG, hGn, hGb⟩ := HRG.out.done (by rw [hLq]; unfold maxLen; omega)
    rw [List.take_length] at hG
    go_wp2_with fail
    refine bodyPost_ret (v := .agg #[.int .i64 k, .int .i64 ((n)), .slice va l.length vc]) (by simp [results, Tryz.results64, go_sem, *]) rfl (HPOST.out _ _ G ?_ ?_ hGn fun g hg => ?_)
    ·exact bSet3 HB.out (by omega) _ _ _ _ _ _
    ·exact hG.set3 (fun h => by have := (hGb _ h).1; omega) _ _ _ _ _ _
    ·rw [size_set3]
     have := hGb g hg
     omega
end Go.Proofs.YtlbikgnanabjgaaGreat
namespace Go.Proofs.YtlbikgnanabjgaaGreat
open Go.RowKit
set_option maxRecDepth 100000 in
theorem instI_any (t u : Tm) (w : World) (v v' : Value) (h : TmIn w 0 t v) (h' : TmIn w 0 u v') : Calls Tryz.prog 85 #[v, v'] w (ReplPost w (SubstOk t 0 u) (t.subst u 0 0)) := by
 obtain ⟨s, rfl, hs⟩ := h
 obtain ⟨a, cap, rfl⟩ := hs.form
 obtain ⟨su, rfl, hsu⟩ := h'
 obtain ⟨ua, ucap, rfl⟩ := hsu.form
 have HK : Hid (∀ w', Below w.heap.size w w' → Calls Tryz.prog 86 #[.agg #[.int .i64 t.kind, .int .i64 t.num, .slice a t.kids.length cap], .int .i64 0, .agg #[.int .i64 u.kind, .int .i64 u.num, .slice ua u.kids.length ucap]] w' (ReplPost w' (SubstOk t 0 u) (t.subst u 0 0))) := fun w' hb => substI_any t u 0 w' _ _ ⟨_, rfl, hs.below hb⟩ ⟨_, rfl, hsu.below hb⟩
 have HP := fun (W w' : World) (e : Ending) (h : ReplPost W (SubstOk t 0 u) (t.subst u 0 0) e w') => h.open
 have HQ := fun (w' : World) (U : Tm) (s : Value) (F : List Nat) (h1 : U = orZero (SubstOk t 0 u) (t.subst u 0 0)) (h2 : Below w.heap.size w w') (h3 : SlOwn w' U.kids s F) (h4 : F.Nodup) (h5 : ∀ g ∈ F, w.heap.size ≤ g ∧ g < w'.heap.size) => ReplPost.close (w := w) (w' := w') (P := SubstOk t 0 u) (T := t.subst u 0 0) (U := U) (s := s) h1 h2 h3 h4 h5
 replace HP := tuck HP
 replace HQ := tuck HQ
 generalize ReplPost w (SubstOk t 0 u) (t.subst u 0 0) = post at *
 clear hs hsu
 go_enter Tryz.func85, Tryz.ntmps85
 go_wp2_with fail
 refine (HK.out _ (below3 _ _ _ _)).mono ?_
 intro e w2 hpost
 obtain ⟨U, sa, sc, F, hU, rfl, hb, hs2, hn2, hF2⟩ := HP.out _ _ _ hpost
 have hv1 := (var_new2 w (.cells #[.int .i64 t.kind, .int .i64 t.num, .slice a t.kids.length cap] 25) (.cells #[.int .i64 u.kind, .int .i64 u.num, .slice ua u.kids.length ucap] 25) 0 0 (.slice none 0 0)).below hb
 obtain ⟨zv, v0, v1, v2, vf⟩ := hv1.facts
 have HB := tuck (bAfter (below3 _ _ _ _) hb)
 have HSO := tuck hs2
 have HN2 := tuck hn2
 have HF : Hid (∀ g ∈ F, w.heap.size + 1 + 1 + 1 ≤ g ∧ g < w2.heap.size) := tuck (fun g hg => ⟨by have := (hF2 g hg).1; simp at this; omega, (hF2 g hg).2⟩)
 clear hb hv1 hpost hs2 hn2 hF2
 have HUU := tuck hU
 clear hU HP HK
 generalize tr (SubstOk t 0 u) = cc at *
 go_wp2_with fail
 refine bodyPost_ret (v := .tuple #[.agg #[.int .i64 U.kind, .int .i64 U.num, .slice sa U.kids.length sc], .bool cc]) (by simp [results, Tryz.results85, go_sem, *]) rfl (HQ.out _ U _ F HUU.out ?_ ?_ HN2.out fun g hg => ?_)
 ·exact bSet3 HB.out (by omega) _ _ _ _ _ _
 ·exact HSO.out.set3 (fun h => by have := (HF.out _ h).1; omega) _ _ _ _ _ _
 ·rw [size_set3]
  have := HF.out g hg
  omega
end Go.Proofs.YtlbikgnanabjgaaGreat
