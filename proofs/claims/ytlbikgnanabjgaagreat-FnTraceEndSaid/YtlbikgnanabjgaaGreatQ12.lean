/-
  Next.
-/
import Derived.Test.YtlbikgnanabjgaaGreatQ06
import Derived.Test.YtlbikgnanabjgaaGreatQ11
namespace Go.Proofs.YtlbikgnanabjgaaGreat
open Go.RowKit
theorem row_put {w3 : World} {R q : Nat} {l : List Tm} {x : Tm} {s : Value} {F F2 : List Nat} {cs : Array Value} {T : TypeId} (hb : w3.heap[R]? = some (.cells cs T (0, 0))) (hq : q < l.length) (hsz : cs.size = l.length * 3)
  (hrow : RowOwn w3 (l.take q) R 0 F) (hs : SlOwn w3 x.kids s F2) (hR : R ∉ F) (hR2 : R ∉ F2) :
  (∃ cs' : Array Value, (((w3.setCell ⟨R, q * 3, none⟩ (.int .i64 x.kind)).setCell ⟨R, q * 3 + 1, none⟩ (.int .i64 x.num)).setCell ⟨R, q * 3 + 2, none⟩ s).heap[R]? = some (.cells cs' T (0, 0)) ∧ cs'.size = l.length * 3) ∧
   RowOwn (((w3.setCell ⟨R, q * 3, none⟩ (.int .i64 x.kind)).setCell ⟨R, q * 3 + 1, none⟩ (.int .i64 x.num)).setCell ⟨R, q * 3 + 2, none⟩ s) (l.take q ++ [x]) R 0 (F ++ F2) := by
 have h4 := block_set (block_set (block_set hb (q * 3) (.int .i64 x.kind)) (q * 3 + 1) (.int .i64 x.num)) (q * 3 + 2) s
 obtain ⟨_, c3, _⟩ := block_of_cells hb
 obtain ⟨_, c4, _⟩ := block_of_cells h4
 have hsame : ∀ g, g ≠ R → SameAt w3 (((w3.setCell ⟨R, q * 3, none⟩ (.int .i64 x.kind)).setCell ⟨R, q * 3 + 1, none⟩ (.int .i64 x.num)).setCell ⟨R, q * 3 + 2, none⟩ s) g := fun g hg =>
  SameAt.of_block ((Below.heap_setCell _ _ _ _ hg).trans ((Below.heap_setCell _ _ _ _ hg).trans (Below.heap_setCell _ _ _ _ hg)))
 refine ⟨⟨_, h4, by simp [hsz]⟩, RowOwn_append.2 ⟨F, F2, rfl, hrow.keep (fun i hi => ?_) (fun g hg => hsame g (fun e => hR (e ▸ hg))), ?_⟩⟩
 ·rw [List.length_take] at hi
  rw [c4, c3, Nat.zero_add, Array.getElem?_setIfInBounds_ne (by omega), Array.getElem?_setIfInBounds_ne (by omega), Array.getElem?_setIfInBounds_ne (by omega)]
 ·have hl : 0 + (l.take q).length * 3 = q * 3 := by rw [List.length_take]; omega
  rw [hl, RowOwn]
  refine ⟨F2, [], by simp, TmOwn_iff.2 ⟨s, ?_, ?_, ?_, hs.keep fun g hg => hsame g (fun e => hR2 (e ▸ hg))⟩, by rw [RowOwn]⟩
  ·rw [c4, Array.getElem?_setIfInBounds_ne (by omega), Array.getElem?_setIfInBounds_ne (by omega), Array.getElem?_setIfInBounds_self_of_lt (by omega)]
  ·rw [c4, Array.getElem?_setIfInBounds_ne (by omega), Array.getElem?_setIfInBounds_self_of_lt (by simp; omega)]
  ·rw [c4, Array.getElem?_setIfInBounds_self_of_lt (by simp; omega)]
end Go.Proofs.YtlbikgnanabjgaaGreat
namespace Go.Proofs.YtlbikgnanabjgaaGreat
open Go.RowKit
theorem nodeCells_get : ∀ (pre : Nodes) (k n : Int) (m : Nat) (rest : Nodes), (nodeCells (pre ++ (k, n, m) :: rest))[pre.length * 3]? = some (.int .i64 k) ∧ (nodeCells (pre ++ (k, n, m) :: rest))[pre.length * 3 + 1]? = some (.int .i64 n) ∧ (nodeCells (pre ++ (k, n, m) :: rest))[pre.length * 3 + 2]? = some (.int .i64 m)
 | [], k, n, m, rest => by simp [nodeCells]
 | (a, b, c) :: pre, k, n, m, rest => by
  have := nodeCells_get pre k n m rest
  simp only [List.cons_append, nodeCells, List.length_cons]
  rw [show (pre.length + 1) * 3 = pre.length * 3 + 3 by omega]
  simpa using this
theorem flatL_append : ∀ a b : List Tm, flatL (a ++ b) = flatL a ++ flatL b
 | [], b => by rw [List.nil_append, flatL, List.nil_append]
 | t :: a, b => by rw [List.cons_append, flatL, flatL, flatL_append a b, List.append_assoc]
def TakeAt (g : Nat) (v : Value) (p : Nat) (w : World) : Prop := w.heap[g]? = some (.cells #[v, .int .i64 p] 170 (0, 0))
def RowHas (rb : Nat) (s : Nodes) (w : World) : Prop := rb < w.heap.size ∧ ∀ j u, (nodeCells s)[j]? = some u → w.cell? ⟨rb, j, none⟩ = some u
theorem RowHas.only {rb g : Nat} {s : Nodes} {w w' : World} (h : RowHas rb s w) (ho : Only g w w') (hn : rb ≠ g) : RowHas rb s w' :=
 ⟨Nat.lt_of_lt_of_le h.1 ho.size, fun j u hu => (ho.cell (p := ⟨rb, j, none⟩) h.1 hn).trans (h.2 j u hu)⟩
def NextPost (g : Nat) (v : Value) (t : Tm) (p : Nat) (w : World) (e : Ending) (w' : World) : Prop :=
 ∃ sv F, e = .returned (.agg #[.int .i64 t.kind, .int .i64 t.num, sv]) ∧ SlOwn w' t.kids sv F ∧ F.Nodup ∧ (∀ x ∈ F, w.heap.size ≤ x ∧ x < w'.heap.size) ∧ Only g w w' ∧ TakeAt g v (p + t.size) w'
theorem info_term' : (Tryz.prog.info? 25).map (fun i => (i.zero, i.size, i.bytes)) = some (some (.agg #[.int .i64 0, .int .i64 0, .slice none 0 0]), 3, 40) := by kernel_rfl
theorem TakeAt.far {g p : Nat} {v : Value} {w : World} (h : TakeAt g v p w) {a : Addr} (ha : g ≠ a.block) (u : Value) : TakeAt g v p (w.setCell a u) := (Below.heap_setCell w a u g ha).trans h
theorem TakeAt.below {g p : Nat} {v : Value} {w w' : World} (h : TakeAt g v p w) (hb : Below w.heap.size w w') : TakeAt g v p w' := (hb.block g (block_of_cells h).1).trans h
theorem VarAt.only {g g' : Nat} {k n : Int} {s : Value} {w w' : World} (h : VarAt g' k n s w) (ho : Only g w w') (hn : g' ≠ g) : VarAt g' k n s w' :=
 (ho.block g' h.facts.1 (fun e => hn (by injection e))).trans h
theorem SlOwn.only {g : Nat} {l : List Tm} {v : Value} {F : List Nat} {w w' : World} (h : SlOwn w l v F) (ho : Only g w w') (hF : ∀ x ∈ F, x < w.heap.size ∧ x ≠ g) : SlOwn w' l v F :=
 h.keep fun x hx => SameAt.of_block (ho.block x (hF x hx).1 (fun e => (hF x hx).2 (by injection e)))
set_option maxRecDepth 100000 in
theorem next_any {g rb cap N : Nat} : ∀ (l : List Tm) (k n : Int) (pre post : Nodes) (w : World), N ≤ 400 → (pre ++ (Tm.mk k n l).flat ++ post).length = N → rb ≠ g → TakeAt g (.slice (some ⟨rb, 0, none⟩) N cap) pre.length w → RowHas rb (pre ++ (Tm.mk k n l).flat ++ post) w →
  Calls Tryz.prog 94 #[.pointer (some ⟨g, 0, none⟩)] w (NextPost g (.slice (some ⟨rb, 0, none⟩) N cap) (.mk k n l) pre.length w) := by
 intro l
 induction l using Tm.ind with
 | h l ih =>
 intro k n pre post w hN hlen hne htake hrow
 obtain ⟨zg, t0, tf⟩ := block_of_cells htake
 have g0 : w.cell? ⟨g, 0, none⟩ = some (.slice (some ⟨rb, 0, none⟩) N cap) := t0 0
 have g1 : w.cell? ⟨g, 1, none⟩ = some (.int .i64 pre.length) := t0 1
 have f1 := tf 1
 have hS : pre ++ (Tm.mk k n l).flat ++ post = pre ++ (k, n, l.length) :: (flatL l ++ post) := by rw [Tm.flat, List.append_assoc, List.cons_append]
 rw [hS] at hlen hrow
 obtain ⟨q0, q1, q2⟩ := nodeCells_get pre k n l.length (flatL l ++ post)
 have r0 := hrow.2 _ _ q0
 have r1 := hrow.2 _ _ q1
 have r2 := hrow.2 _ _ q2
 have hpl : pre.length < N := by rw [← hlen]; simp
 have hzr := hrow.1
 have hfl : (flatL l).length = sizes l := flatL_length l
 have hll := length_le_sizes l
 have hl4 : l.length ≤ 400 := by rw [List.length_append, List.length_cons, List.length_append] at hlen; omega
 obtain ⟨p, hp⟩ : ∃ p, pre.length = p := ⟨_, rfl⟩
 rw [hp] at g1 r0 r1 r2 hpl htake ⊢
 have HP := tuck hp
 have HI := tuck ih
 have HROW := tuck hrow
 have HTAKE := tuck htake
 have HLEN := tuck hlen
 have hp0 : (0 : Int) ≤ (p : Int) := by omega
 have hpi : (p : Int) < (N : Int) := by omega
 clear hS hlen hrow q0 q1 q2 hp ih t0 tf hfl hll htake
 go_enter Tryz.func94, Tryz.ntmps94
 go_wp2_with fail
 have b1 := below1 w (.cells #[.int .i64 0, .int .i64 0, .slice none 0 0] 25)
 have hx : (((((w.alloc (.cells #[.int .i64 0, .int .i64 0, .slice none 0 0] 25)).cell? ⟨g, 0, none⟩ = some (.slice (some ⟨rb, 0, none⟩) N cap) ∧ (w.alloc (.cells #[.int .i64 0, .int .i64 0, .slice none 0 0] 25)).cell? ⟨g, 1, none⟩ = some (.int .i64 p)) ∧ (w.alloc (.cells #[.int .i64 0, .int .i64 0, .slice none 0 0] 25)).cell? ⟨rb, p * 3, none⟩ = some (.int .i64 k)) ∧ (w.alloc (.cells #[.int .i64 0, .int .i64 0, .slice none 0 0] 25)).cell? ⟨rb, p * 3 + 1, none⟩ = some (.int .i64 n)) ∧ (w.alloc (.cells #[.int .i64 0, .int .i64 0, .slice none 0 0] 25)).cell? ⟨rb, p * 3 + 2, none⟩ = some (.int .i64 l.length)) ∧ (w.alloc (.cells #[.int .i64 0, .int .i64 0, .slice none 0 0] 25)).frozen? ⟨g, 1, none⟩ = false :=
  ⟨⟨⟨⟨⟨(b1.cell (p := ⟨g, 0, none⟩) zg).trans g0, (b1.cell (p := ⟨g, 1, none⟩) zg).trans g1⟩, (b1.cell (p := ⟨rb, p * 3, none⟩) hzr).trans r0⟩, (b1.cell (p := ⟨rb, p * 3 + 1, none⟩) hzr).trans r1⟩, (b1.cell (p := ⟨rb, p * 3 + 2, none⟩) hzr).trans r2⟩, (b1.frozen (p := ⟨g, 1, none⟩) zg).trans f1⟩
 obtain ⟨⟨⟨⟨⟨x0, x1⟩, x2⟩, x3⟩, x4⟩, x5⟩ := hx
 have ne0 := World.new_ne _ _ x0
 have ne1 := World.new_ne _ _ x1
 have ne2 := World.new_ne _ _ x2
 go_region_held3 (fun w' => w'.cell? ⟨g, 0, none⟩ = some (.slice (some ⟨rb, 0, none⟩) N cap) ∧ w'.cell? ⟨g, 1, none⟩ = some (.int .i64 p) ∧ w'.cell? ⟨rb, p * 3, none⟩ = some (.int .i64 k) ∧ w'.cell? ⟨rb, p * 3 + 1, none⟩ = some (.int .i64 n) ∧ w'.cell? ⟨rb, p * 3 + 2, none⟩ = some (.int .i64 l.length)) (go_keep) (fail)
 have hb1 : Below w.heap.size w ((w.alloc (.cells #[.int .i64 0, .int .i64 0, .slice none 0 0] 25)).alloc (.cells #[.int .i64 k, .int .i64 n, .int .i64 l.length] 176)).drew := (below2 _ _ _).drew
 have hz1 : ((w.alloc (.cells #[.int .i64 0, .int .i64 0, .slice none 0 0] 25)).alloc (.cells #[.int .i64 k, .int .i64 n, .int .i64 l.length] 176)).drew.heap.size = w.heap.size + 1 + 1 := by simp
 have hn1 : ((w.alloc (.cells #[.int .i64 0, .int .i64 0, .slice none 0 0] 25)).alloc (.cells #[.int .i64 k, .int .i64 n, .int .i64 l.length] 176)).drew.heap[w.heap.size + 1]? = some (.cells #[.int .i64 k, .int .i64 n, .int .i64 l.length] 176 (0, 0)) := by
  have := heap_new (w.alloc (.cells #[.int .i64 0, .int .i64 0, .slice none 0 0] 25)) (.cells #[.int .i64 k, .int .i64 n, .int .i64 l.length] 176)
  rw [show (w.alloc (.cells #[.int .i64 0, .int .i64 0, .slice none 0 0] 25)).heap.size = w.heap.size + 1 by simp] at this
  exact this
 have hv0 : VarAt w.heap.size 0 0 (.slice none 0 0) ((w.alloc (.cells #[.int .i64 0, .int .i64 0, .slice none 0 0] 25)).alloc (.cells #[.int .i64 k, .int .i64 n, .int .i64 l.length] 176)).drew := (VarAt.new _ _ _ _).below (below1 _ _).drew
 generalize ((w.alloc (.cells #[.int .i64 0, .int .i64 0, .slice none 0 0] 25)).alloc (.cells #[.int .i64 k, .int .i64 n, .int .i64 l.length] 176)).drew = W1 at *
 clear b1 x0 x1 x2 x3 x4 x5 ne0 ne1 ne2 r0 r1 r2 f1
 have htk1 : TakeAt g (.slice (some ⟨rb, 0, none⟩) N cap) p W1 := (hb1.block g zg).trans HTAKE.out
 obtain ⟨zg1, t0, tf⟩ := block_of_cells htk1
 replace g0 : W1.cell? ⟨g, 0, none⟩ = some (.slice (some ⟨rb, 0, none⟩) N cap) := t0 0
 replace g1 : W1.cell? ⟨g, 1, none⟩ = some (.int .i64 p) := t0 1
 have f1 := tf 1
 obtain ⟨zn1, n0', -⟩ := block_of_cells hn1
 have n0 : W1.cell? ⟨w.heap.size + 1, 0, none⟩ = some (.int .i64 k) := n0' 0
 have n1 : W1.cell? ⟨w.heap.size + 1, 1, none⟩ = some (.int .i64 n) := n0' 1
 have n2 : W1.cell? ⟨w.heap.size + 1, 2, none⟩ = some (.int .i64 l.length) := n0' 2
 have hset : TakeAt g (.slice (some ⟨rb, 0, none⟩) N cap) (p + 1) (W1.setCell ⟨g, 1, none⟩ (.int .i64 ((p : Int) + 1))) := by
  have := block_set htk1 1 (.int .i64 ((p + 1 : Nat) : Int))
  simpa [TakeAt] using this
 have HSET := tuck hset
 have HB1 := tuck hb1
 have HV0 := tuck hv0
 clear hv0
 have HZ1 := tuck hz1
 have hgn : g ≠ w.heap.size + 1 := by omega
 have hgn0 : g ≠ w.heap.size := by omega
 obtain ⟨vz, v0, v1, v2, vf⟩ := HV0.out.facts
 clear htk1 t0 tf n0' hset hb1 hn1
 by_cases hl0 : l.length = 0
 ·have hl : l = [] := List.length_eq_zero_iff.1 hl0
  subst hl
  go_wp2_with fail
  have o1 : Only g w (W1.setCell ⟨g, 1, none⟩ (.int .i64 ((p : Int) + 1))) := ((Only.refl g w).of_below HB1.out).setCell (Or.inl rfl) _
  refine bodyPost_ret (v := .agg #[.int .i64 k, .int .i64 n, .slice none 0 0]) (by simp [results, Tryz.results94, go_sem, *]) rfl ⟨_, [], rfl, SlOwn.nil _ _ _, List.nodup_nil, fun x h => (by cases h), ?_, ?_⟩
  ·exact (((o1.setCell (Or.inr (Nat.le_refl _)) _).setCell (Or.inr (Nat.le_refl _)) _).setCell (Or.inr (Nat.le_refl _)) _).alloc _
  ·have h := (((HSET.out.far (a := ⟨w.heap.size, 0, none⟩) hgn0 (.int .i64 k)).far (a := ⟨w.heap.size, 1, none⟩) hgn0 (.int .i64 n)).far (a := ⟨w.heap.size, 2, none⟩) hgn0 (.slice none 0 0)).below (below1 _ (.cells #[.int .i64 k, .int .i64 n, .slice none 0 0] 25))
   have hz : (Tm.mk k n []).size = 1 := by rw [Tm.size, sizes]
   rw [hz]
   exact h
 ·have hlp : (0 : Int) < (l.length : Int) := by omega
  have hlp0 : (0 : Int) ≤ (l.length : Int) := by omega
  have hlpd : decide (0 < l.length) = true := by simp; omega
  obtain ⟨i0, hi, hz0, hz1', hz2⟩ := info_parts info_term'
  have hmk : ∀ W : World, (Instr.makeSlice 23 (.int .i64 (l.length : Int)) (.int .i64 (l.length : Int))).run Tryz.prog W = .ok (.slice (some ⟨W.heap.size, 0, none⟩) l.length l.length) (W.alloc (.cells (madeCells #[.int .i64 0, .int .i64 0, .slice none 0 0] (l.length * 3)) 25)) := fun W => by
   have h := run_make (P := Tryz.prog) W 23 25 i0 _ Tryz.underlying23 hi hz0 .i64 .i64 (l.length : Int) (l.length : Int) (by omega) (Int.le_refl _) (by rw [hz2]; omega) (by omega)
   rw [hz1'] at h
   simpa [Value.cells] using h
  clear hi hz0 hz1' hz2
  have o1 : Only g w (W1.setCell ⟨g, 1, none⟩ (.int .i64 ((p : Int) + 1))) := ((Only.refl g w).of_below HB1.out).setCell (Or.inl rfl) _
  have zz1 : (W1.setCell ⟨g, 1, none⟩ (.int .i64 ((p : Int) + 1))).heap.size = w.heap.size + 1 + 1 := by simp [World.setCell, HZ1.out]
  have o2 := (o1.alloc (.cells #[.int .i64 k, .int .i64 n, .slice (some ⟨w.heap.size + 1 + 1 + 1, 0, none⟩) l.length l.length] 25)).alloc (.cells (madeCells #[.int .i64 0, .int .i64 0, .slice none 0 0] (l.length * 3)) 25)
  have t2 := (HSET.out.below (below1 _ (.cells #[.int .i64 k, .int .i64 n, .slice (some ⟨w.heap.size + 1 + 1 + 1, 0, none⟩) l.length l.length] 25))).below (below1 _ (.cells (madeCells #[.int .i64 0, .int .i64 0, .slice none 0 0] (l.length * 3)) 25))
  have y0 := ((HV0.out.far (p := ⟨g, 1, none⟩) hgn0.symm (.int .i64 ((p : Int) + 1))).below (below1 _ (.cells #[.int .i64 k, .int .i64 n, .slice (some ⟨w.heap.size + 1 + 1 + 1, 0, none⟩) l.length l.length] 25))).below (below1 _ (.cells (madeCells #[.int .i64 0, .int .i64 0, .slice none 0 0] (l.length * 3)) 25))
  have y4 := (VarAt.new (W1.setCell ⟨g, 1, none⟩ (.int .i64 ((p : Int) + 1))) k n (.slice (some ⟨w.heap.size + 1 + 1 + 1, 0, none⟩) l.length l.length)).below (below1 _ (.cells (madeCells #[.int .i64 0, .int .i64 0, .slice none 0 0] (l.length * 3)) 25))
  have yr := heap_new ((W1.setCell ⟨g, 1, none⟩ (.int .i64 ((p : Int) + 1))).alloc (.cells #[.int .i64 k, .int .i64 n, .slice (some ⟨w.heap.size + 1 + 1 + 1, 0, none⟩) l.length l.length] 25)) (.cells (madeCells #[.int .i64 0, .int .i64 0, .slice none 0 0] (l.length * 3)) 25)
  have zz2 : ((W1.setCell ⟨g, 1, none⟩ (.int .i64 ((p : Int) + 1))).alloc (.cells #[.int .i64 k, .int .i64 n, .slice (some ⟨w.heap.size + 1 + 1 + 1, 0, none⟩) l.length l.length] 25)).heap.size = w.heap.size + 1 + 1 + 1 := by simp [zz1]
  rw [zz2] at yr
  rw [zz1] at y4
  have O2 := tuck o2
  have T2 := tuck t2
  have Y0 := tuck y0
  have Y4 := tuck y4
  have YR := tuck yr
  have ZZ2 := tuck zz2
  clear o1 zz1 o2 t2 y0 y4 yr zz2
  go_wp2_with fail
  generalize ((W1.setCell ⟨g, 1, none⟩ (.int .i64 ((p : Int) + 1))).alloc (.cells #[.int .i64 k, .int .i64 n, .slice (some ⟨w.heap.size + 1 + 1 + 1, 0, none⟩) l.length l.length] 25)).alloc (.cells (madeCells #[.int .i64 0, .int .i64 0, .slice none 0 0] (l.length * 3)) 25) = W2 at *
  clear vz v0 v1 v2 vf n0 n1 n2 f1 g0 g1 zn1 zg1 hmk hz1
  go_loopw [38] (fun i wr => ∃ (q : Nat) (F : List Nat), q ≤ l.length ∧ i = .int .i64 q ∧ Only g w wr ∧ TakeAt g (.slice (some ⟨rb, 0, none⟩) N cap) (p + 1 + sizes (l.take q)) wr ∧ VarAt w.heap.size 0 0 (.slice none 0 0) wr ∧ VarAt (w.heap.size + 1 + 1) k n (.slice (some ⟨w.heap.size + 1 + 1 + 1, 0, none⟩) l.length l.length) wr ∧
    (∃ cs : Array Value, wr.heap[w.heap.size + 1 + 1 + 1]? = some (.cells cs 25 (0, 0)) ∧ cs.size = l.length * 3) ∧ RowOwn wr (l.take q) (w.heap.size + 1 + 1 + 1) 0 F ∧ F.Nodup ∧ ∀ x ∈ F, w.heap.size + 1 + 1 + 1 < x ∧ x < wr.heap.size) (fun i _ => l.length - (intOf i).toNat)
  case atStart => exact ⟨0, [], Nat.zero_le _, rfl, O2.out, by simpa [sizes] using T2.out, Y0.out, Y4.out, ⟨_, YR.out, size_madeCells _ _⟩, by rw [List.take_zero, RowOwn], List.nodup_nil, fun x h => by cases h⟩
  case round =>
   obtain ⟨q, F, hq, rfl, ho, htk, hy0, hy4, ⟨cs, hcs, hcz⟩, hro, hnd, hF⟩ := hrel
   have HO := tuck ho
   have HTK := tuck htk
   have HY0 := tuck hy0
   have HY4 := tuck hy4
   have HCS := tuck hcs
   have HRO := tuck hro
   have HND := tuck hnd
   have HF := tuck hF
   clear ho htk hy0 hy4 hcs hro hnd hF
   by_cases hlt : q < l.length
   ·have hlti : ((q : Int) < (l.length : Int)) := by omega
    have hqi : (0 : Int) ≤ (q : Int) := by omega
    obtain ⟨z4, a0, a1, a2, af⟩ := HY4.out.facts
    have hzr4 := (block_of_cells HCS.out).1
    have hst := sizes_take_succ l q hlt
    have HST := tuck hst
    have hRg : w.heap.size + 1 + 1 + 1 ≠ g := by omega
    have h4g : w.heap.size + 1 + 1 ≠ g := by omega
    have HTAKE1 : Hid (l.take (q + 1) = l.take q ++ [l[q]]) := List.take_succ_eq_append_getElem hlt
    have hsplit : pre ++ (k, n, l.length) :: (flatL l ++ post) = (pre ++ (k, n, l.length) :: flatL (l.take q)) ++ l[q].flat ++ (flatL (l.drop (q + 1)) ++ post) := by
     have e : flatL l = flatL (l.take q) ++ (l[q].flat ++ flatL (l.drop (q + 1))) := by
      rw [show l[q].flat ++ flatL (l.drop (q + 1)) = flatL (l[q] :: l.drop (q + 1)) by rw [flatL], ← List.drop_eq_getElem_cons hlt, ← flatL_append, List.take_append_drop]
     rw [e]
     simp
    have hpl' : (pre ++ (k, n, l.length) :: flatL (l.take q)).length = p + 1 + sizes (l.take q) := by
     rw [List.length_append, List.length_cons, flatL_length, HP.out]
     omega
    have HCALL : Hid (∀ w1, Only g wr w1 → TakeAt g (.slice (some ⟨rb, 0, none⟩) N cap) (p + 1 + sizes (l.take q)) w1 → Calls Tryz.prog 94 #[.pointer (some ⟨g, 0, none⟩)] w1 (NextPost g (.slice (some ⟨rb, 0, none⟩) N cap) l[q] (p + 1 + sizes (l.take q)) w1)) := fun w1 h1 h2 => by
     have hr := (HROW.out.only (HO.out.trans h1) hne)
     rw [hsplit] at hr
     have hl := HLEN.out
     rw [hsplit] at hl
     rw [← hpl'] at h2 ⊢
     have := HI.out q hlt l[q].kind l[q].num (pre ++ (k, n, l.length) :: flatL (l.take q)) (flatL (l.drop (q + 1)) ++ post) w1 hN (by rw [Tm.eta]; exact hl) hne h2 (by rw [Tm.eta]; exact hr)
     rwa [Tm.eta] at this
    clear hsplit hpl' hst HI
    generalize l[q] = x at *
    have HS0 : Hid (w.heap.size + 1 + 1 < wr.drew.heap.size ∧ wr.drew.cell? ⟨w.heap.size + 1 + 1, 2, none⟩ = some (.slice (some ⟨w.heap.size + 1 + 1 + 1, 0, none⟩) l.length l.length)) := tuck ⟨z4, a2⟩
    go_wp2_with fail
    go_region_held3 (fun w' => w.heap.size + 1 + 1 < w'.heap.size ∧ w'.cell? ⟨w.heap.size + 1 + 1, 2, none⟩ = some (.slice (some ⟨w.heap.size + 1 + 1 + 1, 0, none⟩) l.length l.length)) (first | exact HS0.out | exact ⟨HV3.out.facts.1, HV3.out.facts.2.2.2.1⟩ | exact ⟨HV4.out.facts.1, HV4.out.facts.2.2.2.1⟩) ((go_at_call 94; refine (HCALL.out _ ((Only.refl g wr).drew) (HTK.out.below (Below.refl _ _).drew)).mono ?_; rintro e w3 ⟨sv, F2, rfl, hs2, hnd2, hF2, ho2, htk2⟩; obtain ⟨sva, svc, rfl⟩ := hs2.form; have HV3 := tuck ((HY4.out.below (Below.refl _ _).drew).only ho2 h4g); have HV4 := tuck (HV3.out.far3 (Nat.ne_of_lt (Nat.lt_succ_self _)) (q * 3) (q * 3 + 1) (q * 3 + 2) (.int .i64 x.kind) (.int .i64 x.num) (.slice sva x.kids.length svc)); have HC3 := tuck ((ho2.block (w.heap.size + 1 + 1 + 1) hzr4 (fun e => hRg (by injection e))).trans HCS.out); have c30 := ((block_of_cells HC3.out).2.1 (q * 3)).trans (Array.getElem?_eq_getElem (by omega)); have c31 := ((block_of_cells HC3.out).2.1 (q * 3 + 1)).trans (Array.getElem?_eq_getElem (by omega)); have c32 := ((block_of_cells HC3.out).2.1 (q * 3 + 2)).trans (Array.getElem?_eq_getElem (by omega)); have c3f := (block_of_cells HC3.out).2.2))
    have HN2 := tuck hnd2
    have HF2 := tuck hF2
    have HO2' := tuck ho2
    have HT2 := tuck htk2
    have HSX := tuck hs2
    clear hs2 hnd2 hF2 ho2 htk2 c30 c31 c32 c3f
    go_wp2_with fail
    go_roundw
    case rel =>
     have ho3 : Only g w w3 := (HO.out.drew).trans HO2'.out
     have hz3 : wr.heap.size ≤ w3.heap.size := HO2'.out.size
     have hd : wr.drew.heap.size = wr.heap.size := rfl
     have hRF : (w.heap.size + 1 + 1 + 1) ∉ F := fun h => by have := (HF.out _ h).1; omega
     have hRF2 : (w.heap.size + 1 + 1 + 1) ∉ F2 := fun h => by have := (HF2.out _ h).1; have := hzr4; omega
     have hro3 : RowOwn w3 (l.take q) (w.heap.size + 1 + 1 + 1) 0 F := HRO.out.keep (fun i _ => HO2'.out.cell (p := ⟨w.heap.size + 1 + 1 + 1, 0 + i, none⟩) hzr4 hRg) (fun y hy => SameAt.of_block (HO2'.out.block y (HF.out y hy).2 (fun e => by have := (HF.out y hy).1; injection e with e; omega)))
     obtain ⟨hp1, hp2⟩ := row_put HC3.out hlt hcz hro3 HSX.out hRF hRF2
     have hgR : g ≠ w.heap.size + 1 + 1 + 1 := fun e => hRg e.symm
     refine ⟨q + 1, F ++ F2, by omega, by go_num, ((ho3.setCell (Or.inr (by show w.heap.size ≤ w.heap.size + 1 + 1 + 1; omega)) _).setCell (Or.inr (by show w.heap.size ≤ w.heap.size + 1 + 1 + 1; omega)) _).setCell (Or.inr (by show w.heap.size ≤ w.heap.size + 1 + 1 + 1; omega)) _, ?_, ?_, HV4.out, hp1, by rw [HTAKE1.out]; exact hp2, ?_, fun y hy => ?_⟩
     ·rw [HST.out, ← Nat.add_assoc]
      exact ((HT2.out.far (a := ⟨w.heap.size + 1 + 1 + 1, q * 3, none⟩) hgR _).far (a := ⟨w.heap.size + 1 + 1 + 1, q * 3 + 1, none⟩) hgR _).far (a := ⟨w.heap.size + 1 + 1 + 1, q * 3 + 2, none⟩) hgR _
     ·exact ((HY0.out.below (Below.refl _ _).drew).only HO2'.out hgn0.symm).far3 (by omega) _ _ _ _ _ _
     ·refine List.nodup_append.2 ⟨HND.out, HN2.out, fun a ha b hb e => ?_⟩
      have := (HF.out a ha).2
      have := (HF2.out b hb).1
      have hd : wr.drew.heap.size = wr.heap.size := rfl
      omega
     ·rw [size_set3]
      have hd : wr.drew.heap.size = wr.heap.size := rfl
      rcases List.mem_append.1 hy with hy | hy
      ·have := HF.out y hy
       omega
      ·have := HF2.out y hy
       omega
    case measure => simp [intOf]; omega
   ·have hge2 : ¬ ((q : Int) < (l.length : Int)) := by omega
    have e : q = l.length := by omega
    subst e
    obtain ⟨z4, a0, a1, a2, af⟩ := HY4.out.facts
    obtain ⟨zv, v0, v1, v2, vf⟩ := HY0.out.facts
    go_wp2_with fail
    refine bodyPost_ret (v := .agg #[.int .i64 k, .int .i64 n, .slice (some ⟨w.heap.size + 1 + 1 + 1, 0, none⟩) l.length l.length]) (by simp [results, Tryz.results94, go_sem, *]) rfl ⟨_, (w.heap.size + 1 + 1 + 1) :: F, rfl, ?_, List.nodup_cons.2 ⟨fun h => by have := (HF.out _ h).1; omega, HND.out⟩, fun x hx => ?_, ?_, ?_⟩
    ·have hso : SlOwn wr l (.slice (some ⟨w.heap.size + 1 + 1 + 1, 0, none⟩) l.length l.length) ((w.heap.size + 1 + 1 + 1) :: F) := by
      have hro := HRO.out
      rw [List.take_length] at hro
      exact ⟨some ⟨w.heap.size + 1 + 1 + 1, 0, none⟩, l.length, w.heap.size + 1 + 1 + 1, F, rfl, by unfold maxLen; omega, Or.inr ⟨rfl, rfl, (block_of_cells HCS.out).2.2⟩, fun _ => hro⟩
     refine hso.set3 (fun h => ?_) _ _ _ _ _ _
     rcases List.mem_cons.1 h with h | h
     ·omega
     ·have := (HF.out _ h).1; omega
    ·rw [size_set3]
     have := (block_of_cells HCS.out).1
     rcases List.mem_cons.1 hx with rfl | hx
     ·omega
     ·have := HF.out x hx
      omega
    ·exact ((HO.out.setCell (Or.inr (Nat.le_refl _)) _).setCell (Or.inr (Nat.le_refl _)) _).setCell (Or.inr (Nat.le_refl _)) _
    ·have hz : (Tm.mk k n l).size = 1 + sizes l := by rw [Tm.size]
     have h := HTK.out
     rw [List.take_length] at h
     rw [hz, ← Nat.add_assoc]
     exact ((h.far (a := ⟨w.heap.size, 0, none⟩) hgn0 _).far (a := ⟨w.heap.size, 1, none⟩) hgn0 _).far (a := ⟨w.heap.size, 2, none⟩) hgn0 _
end Go.Proofs.YtlbikgnanabjgaaGreat
