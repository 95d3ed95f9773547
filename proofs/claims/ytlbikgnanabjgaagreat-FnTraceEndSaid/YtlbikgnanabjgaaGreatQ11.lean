/-
  Copy.
-/
import Derived.Test.YtlbikgnanabjgaaGreatQ09
import Derived.Test.YtlbikgnanabjgaaGreatQ10
import Derived.Deep.AppendLies
import Derived.Deep.RegionLaw
import Derived.Laws.AppendOwn
import Derived.OwnWalk
namespace Go.Proofs.YtlbikgnanabjgaaGreat
open Go.RowKit
def nodeCells : Nodes → List Value
 | [] => []
 | (k, n, m) :: s => .int .i64 k :: .int .i64 n :: .int .i64 m :: nodeCells s
theorem nodeCells_append : ∀ s t : Nodes, nodeCells (s ++ t) = nodeCells s ++ nodeCells t
 | [], t => rfl
 | (k, n, m) :: s, t => by simp only [List.cons_append, nodeCells, nodeCells_append s t]
def BufAt (g : Nat) (p : Nat) (s : Nodes) (M : Nat → Prop) (w : World) : Prop :=
 ∃ v, w.heap[g]? = some (.cells #[v, .int .i64 p] 170 (0, 0)) ∧ w.ownsRow (g + 1) 176 3 v s.length (nodeCells s) ∧ s.length ≤ 400 ∧ M = fun i => i = g ∨ v.ownBlock = some i
theorem grown_of_below {w w' : World} (hb : Below w.heap.size w w') : w.grownBy w' none := ⟨hb.os, hb.tape, hb.output, hb.size, fun k hk _ => hb.block k hk⟩
theorem own_form {w : World} {base : Nat} {e : TypeId} {size : Nat} {v : Value} {n : Nat} {xs : List Value} (h : w.ownsRow base e size v n xs) : ∃ a cap, v = .slice a n cap := by
 rcases h.2 with ⟨h1, h2⟩ | ⟨g, cap, _, h1, _⟩
 ·exact ⟨none, 0, by rw [h1, h2]⟩
 ·exact ⟨_, _, h1⟩
theorem BufAt.below {g p : Nat} : ∀ (s : Nodes) (M : Nat → Prop) (w w' : World), BufAt g p s M w → Below w.heap.size w w' → BufAt g p s M w' := fun s M w w' ⟨v, h1, h2, h3, h4⟩ hb =>
 ⟨v, (hb.block g (block_of_cells h1).1).trans h1, h2.kept (grown_of_below hb) (by cases v.ownBlock <;> simp), h3, h4⟩
theorem BufAt.lt {g p : Nat} {s : Nodes} {M : Nat → Prop} {w : World} (h : BufAt g p s M w) : ∀ i, M i → i < w.heap.size := by
 obtain ⟨v, h1, h2, h3, rfl⟩ := h
 rintro i (rfl | hi)
 ·exact (block_of_cells h1).1
 ·exact (h2.lt i hi).2
theorem info_node : (Tryz.prog.info? 176).map (fun i => (i.zero, i.size, i.bytes)) = some (some (.agg #[.int .i64 0, .int .i64 0, .int .i64 0]), 3, 24) := by kernel_rfl
theorem buf_push {g : Nat} {s : Nodes} {k n : Int} {m : Nat} {M : Nat → Prop} {v : Value} {w W w1 : World} {gg cap : Nat} (hs : s.length < 400) (h1 : w.heap[g]? = some (.cells #[v, .int .i64 (0 : Nat)] 170 (0, 0)))
  (h2 : w.ownsRow (g + 1) 176 3 v s.length (nodeCells s)) (hM : M = fun i => i = g ∨ v.ownBlock = some i) (hb : Below w.heap.size w W)
  (hown : w1.ownsRow (g + 1) 176 3 (.slice (some ⟨gg, 0, none⟩) (s.length + 1) cap) (s.length + 1) (nodeCells s ++ [.int .i64 k, .int .i64 n, .int .i64 m])) (hgrow : W.grownBy w1 v.ownBlock)
  (hat : v.ownBlock = some gg ∨ gg = W.heap.size) :
  UsePost (BufAt g 0) M w (some (s ++ [(k, n, m)])) (.returned (.bool true)) (w1.setCell ⟨g, 0, none⟩ (.slice (some ⟨gg, 0, none⟩) (s.length + 1) cap)) := by
 have hgb := (block_of_cells h1).1
 have hgg := hown.lt gg rfl
 have hgW : W.heap[g]? = w.heap[g]? := hb.block g hgb
 have hne : some g ≠ v.ownBlock := fun e => by have := h2.lt g e.symm; omega
 have hgv : g < W.heap.size := Nat.lt_of_lt_of_le hgb hb.size
 have hc1 : w1.heap[g]? = some (.cells #[v, .int .i64 (0 : Nat)] 170 (0, 0)) := (hgrow.block g hgv hne).trans (hgW.trans h1)
 have hlt : ∀ i, M i → i < w.heap.size := by
  subst hM
  rintro i (rfl | hi)
  ·exact hgb
  ·exact (h2.lt i hi).2
 refine ⟨fun i => i = g ∨ gg = i, ⟨hgrow.os.trans hb.os, hgrow.tape.trans hb.tape, hgrow.output.trans hb.output, ?_, fun i hi hn => ?_, fun i hi hm => ?_, ?_⟩, rfl, fun s' hs' => ?_⟩
 ·show w.heap.size ≤ (w1.setCell _ _).heap.size
  have := hb.size
  have := hgrow.size
  simp only [World.setCell, Array.size_modify]
  omega
 ·rw [Below.heap_setCell _ _ _ _ (fun e => hn (by rw [hM]; exact Or.inl e))]
  exact (hgrow.block i (Nat.lt_of_lt_of_le hi hb.size) (fun e => hn (by rw [hM]; exact Or.inr e.symm))).trans (hb.block i hi)
 ·rw [hM]
  rcases hm with hm | hm
  ·exact Or.inl hm
  ·rcases hat with hat | hat
   ·exact Or.inr (by rw [hat, hm])
   ·have := hb.size
    omega
 ·rintro i (rfl | hi)
  ·have := hgrow.size
   simp only [World.setCell, Array.size_modify]
   omega
  ·simp only [World.setCell, Array.size_modify]
   omega
 ·cases hs'
  refine ⟨.slice (some ⟨gg, 0, none⟩) (s.length + 1) cap, ?_, ?_, ?_, ?_⟩
  ·have := block_set hc1 0 (.slice (some ⟨gg, 0, none⟩) (s.length + 1) cap)
   simpa using this
  ·rw [nodeCells_append, List.length_append]
   refine ownsRow_setCell_other hown ?_ _
   intro e
   simp only [Value.ownBlock, Option.some.injEq] at e
   omega
  ·rw [List.length_append]
   simp
   omega
  ·funext i
   simp only [Value.ownBlock, Option.some.injEq]
theorem below_drew_alloc (w : World) (o : Obj) : Below w.heap.size w (w.alloc o).drew := (below1 w o).drew
set_option maxRecDepth 100000 in
theorem addNode_any (g : Nat) (s : Nodes) (k n : Int) (m : Nat) (b d : Int) (w : World) (M : Nat → Prop) (hbuf : BufAt g 0 s M w) (hd0 : 0 ≤ d) (hd : d ≤ 1000) :
  Calls Tryz.prog 95 #[.pointer (some ⟨g, 0, none⟩), .agg #[.int .i64 k, .int .i64 n, .int .i64 m], .agg #[.int .i64 b, .int .i64 d]] w (UsePost (BufAt g 0) M w (addNode k n m d s)) := by
 have hlt := hbuf.lt
 obtain ⟨v, h1, h2, h3, hM⟩ := hbuf
 obtain ⟨va, vc, rfl⟩ := own_form h2
 obtain ⟨z, e0, ef⟩ := block_of_cells h1
 have c0 : w.cell? ⟨g, 0, none⟩ = some (.slice va s.length vc) := e0 0
 have f0 := ef 0
 have HN : Hid (∀ w', Below w.heap.size w w' → UsePost (BufAt g 0) M w none (.returned (.bool false)) w') := fun w' hb => ⟨M, Step.of_below hb hlt, rfl, fun _ h => by cases h⟩
 by_cases hl : s.length = 400
 ·rw [show addNode k n m d s = none from if_pos (Or.inl hl)]
  have g0 : ((s.length : Int) == 400) = true := by simp; omega
  generalize UsePost (BufAt g 0) M w none = post at *
  clear hl e0 ef
  go_enter Tryz.func95, Tryz.ntmps95
  go_wp2_with fail
  exact HN.out _ (below2 _ _ _)
 ·have g0 : ((s.length : Int) == 400) = false := by simp; omega
  by_cases hdd : 30 < d
  ·rw [show addNode k n m d s = none from if_pos (Or.inr hdd)]
   have g1 : decide (30 < d) = true := by simpa using hdd
   generalize UsePost (BufAt g 0) M w none = post at *
   clear hl e0 ef hdd
   go_enter Tryz.func95, Tryz.ntmps95
   go_wp2_with fail
   exact HN.out _ (below2 _ _ _)
  ·rw [show addNode k n m d s = some (s ++ [(k, n, m)]) from if_neg (by omega)]
   have g1 : decide (30 < d) = false := by simpa using hdd
   have hs : s.length < 400 := by omega
   have hmx : s.length + 1 ≤ maxLen := by unfold maxLen; omega
   have hby : (s.length + 1) * 24 ≤ 140737488355328 := by omega
   have HP : Hid (∀ (W w1 : World) (gg cap : Nat), Below w.heap.size w W → w1.ownsRow (g + 1) 176 3 (.slice (some ⟨gg, 0, none⟩) (s.length + 1) cap) (s.length + 1) (nodeCells s ++ [.int .i64 k, .int .i64 n, .int .i64 m]) → W.grownBy w1 (Value.slice va s.length vc).ownBlock →
     ((Value.slice va s.length vc).ownBlock = some gg ∨ gg = W.heap.size) → UsePost (BufAt g 0) M w (some (s ++ [(k, n, m)])) (.returned (.bool true)) (w1.setCell ⟨g, 0, none⟩ (.slice (some ⟨gg, 0, none⟩) (s.length + 1) cap))) :=
    fun W w1 gg cap a1 a2 a3 a4 => buf_push hs h1 h2 hM a1 a2 a3 a4
   have hb2 : Below w.heap.size w ((w.alloc (.cells #[.int .i64 k, .int .i64 n, .int .i64 m] 176)).alloc (.cells #[.int .i64 b, .int .i64 d] 163)) := below2 _ _ _
   have hbx : ((w.alloc (.cells #[.int .i64 k, .int .i64 n, .int .i64 m] 176)).alloc (.cells #[.int .i64 b, .int .i64 d] 163)).heap[w.heap.size]? = some (.cells #[.int .i64 k, .int .i64 n, .int .i64 m] 176 (0, 0)) := (Below.heap_alloc _ _ _ (by simp)).trans (heap_new _ _)
   have HOWN := tuck (h2.kept (grown_of_below hb2) (by cases (Value.slice va s.length vc).ownBlock <;> simp))
   have c0' := (hb2.cell (p := ⟨g, 0, none⟩) z).trans c0
   have f0' := (hb2.frozen (p := ⟨g, 0, none⟩) z).trans f0
   have hgr : some g ≠ (Value.slice va s.length vc).ownBlock := fun e => by have := h2.lt g e.symm; omega
   obtain ⟨i0, hi0, hz0, hz1, hz2⟩ := info_parts info_node
   have HB2 := tuck hb2
   have HGR := tuck hgr
   have HBX := tuck hbx
   have hgz : g < ((w.alloc (.cells #[.int .i64 k, .int .i64 n, .int .i64 m] 176)).alloc (.cells #[.int .i64 b, .int .i64 d] 163)).heap.size := Nat.lt_of_lt_of_le z hb2.size
   have x0 : ((w.alloc (.cells #[.int .i64 k, .int .i64 n, .int .i64 m] 176)).alloc (.cells #[.int .i64 b, .int .i64 d] 163)).cell? ⟨w.heap.size, 0, none⟩ = some (.int .i64 k) := by go_simp
   have x1 : ((w.alloc (.cells #[.int .i64 k, .int .i64 n, .int .i64 m] 176)).alloc (.cells #[.int .i64 b, .int .i64 d] 163)).cell? ⟨w.heap.size, 1, none⟩ = some (.int .i64 n) := by go_simp
   have x2 : ((w.alloc (.cells #[.int .i64 k, .int .i64 n, .int .i64 m] 176)).alloc (.cells #[.int .i64 b, .int .i64 d] 163)).cell? ⟨w.heap.size, 2, none⟩ = some (.int .i64 m) := by go_simp
   have xz : w.heap.size < ((w.alloc (.cells #[.int .i64 k, .int .i64 n, .int .i64 m] 176)).alloc (.cells #[.int .i64 b, .int .i64 d] 163)).heap.size := by simp; omega
   generalize UsePost (BufAt g 0) M w (some (s ++ [(k, n, m)])) = post at *
   clear hl e0 ef hdd h1 h2 hb2 hgr hlt hM
   go_enter Tryz.func95, Tryz.ntmps95
   go_wp2_with fail
   generalize ((w.alloc (.cells #[.int .i64 k, .int .i64 n, .int .i64 m] 176)).alloc (.cells #[.int .i64 b, .int .i64 d] 163)) = W0 at *
   clear hbx
   have hown1 : (W0.alloc (.cells #[.int .i64 k, .int .i64 n, .int .i64 m] 176)).drew.ownsRow (g + 1) 176 3 (.slice va s.length vc) s.length (nodeCells s) := HOWN.out.kept (grown_of_below (below_drew_alloc W0 _)) (by cases (Value.slice va s.length vc).ownBlock <;> simp)
   have hnews : ∀ j u, ([.int .i64 k, .int .i64 n, .int .i64 m] : List Value)[j]? = some u → (W0.alloc (.cells #[.int .i64 k, .int .i64 n, .int .i64 m] 176)).drew.cell? ((⟨W0.heap.size, 0, none⟩ : Addr).add j) = some u := World.news_of_block (cs := #[.int .i64 k, .int .i64 n, .int .i64 m]) (t := 176) (fr := (0, 0)) (heap_new W0 _)
   have hone : ∀ u ∈ ([.int .i64 k, .int .i64 n, .int .i64 m] : List Value), u.oneCell' = true := by simp [Value.oneCell']
   have hbase : g + 1 ≤ (W0.alloc (.cells #[.int .i64 k, .int .i64 n, .int .i64 m] 176)).drew.heap.size := by simp; omega
   have hH : (W0.alloc (.cells #[.int .i64 k, .int .i64 n, .int .i64 m] 176)).drew.heap.size = W0.heap.size + 1 := by simp
   have hgl : g < (W0.alloc (.cells #[.int .i64 k, .int .i64 n, .int .i64 m] 176)).drew.heap.size := by simp; omega
   have k0' : (W0.alloc (.cells #[.int .i64 k, .int .i64 n, .int .i64 m] 176)).drew.cell? ⟨g, 0, none⟩ = some (.slice va s.length vc) := ((below_drew_alloc W0 _).cell (p := ⟨g, 0, none⟩) hgz).trans c0'
   have kf' : (W0.alloc (.cells #[.int .i64 k, .int .i64 n, .int .i64 m] 176)).drew.frozen? ⟨g, 0, none⟩ = false := ((below_drew_alloc W0 _).frozen (p := ⟨g, 0, none⟩) hgz).trans f0'
   have HOWN1 := tuck hown1
   have HNEWS := tuck hnews
   have HONE := tuck hone
   have HBASE := tuck hbase
   have HH := tuck hH
   have HGL := tuck hgl
   have K0 := tuck k0'
   have KF := tuck kf'
   clear hown1 hnews hone hbase hH hgl k0' kf'
   go_region_law ((refine step_append_lies _ (by rfl) _ _ _ (by rfl) (g + 1) 176 i0 _ 3 24 Tryz.underlying168 hi0 hz0 hz1 hz2 rfl (by omega) _ _ _ (by rfl) HOWN1.out ⟨W0.heap.size, 0, none⟩ 1 1 [.int .i64 k, .int .i64 n, .int .i64 m] (by rfl) (by rfl) HNEWS.out HONE.out (by omega) hmx hby HBASE.out (W0.heap.size + 1) HH.out ?_; intro gg cap w1 hown1 hgrow hat hlt1; have k0 := (hgrow.cell_far ⟨g, 0, none⟩ HGL.out HGR.out).trans K0.out; have k1 := (hgrow.frozen_far ⟨g, 0, none⟩ HGL.out HGR.out).trans KF.out))
   all_goals go_wp2_with fail
   all_goals exact HP.out _ w1 gg cap (bAfter HB2.out (below_drew_alloc W0 _)) hown1 hgrow (hat.imp id (fun h => h.trans HH.out.symm))
end Go.Proofs.YtlbikgnanabjgaaGreat
namespace Go.Proofs.YtlbikgnanabjgaaGreat
open Go.RowKit
theorem emit_varT {ok : Prop} {n d : Int} {s : Nodes} (h : s.length ≤ 400) : emit ok (varT n) d s = @ite _ ok (Classical.propDecidable _) (addNode 1 n 0 d s) none := emit_leaf h
theorem BufAt.le {g p : Nat} {s : Nodes} {M : Nat → Prop} {w : World} (h : BufAt g p s M w) : s.length ≤ 400 := by
 obtain ⟨_, _, _, h3, _⟩ := h
 exact h3
set_option maxRecDepth 100000 in
theorem addVar_any (g : Nat) (s : Nodes) (i b d : Int) (w : World) (M : Nat → Prop) (hbuf : BufAt g 0 s M w) (hi0 : 0 ≤ i) (hi1 : i ≤ 100000) (hb0 : 0 ≤ b) (hb1 : b ≤ 1000) (hd0 : 0 ≤ d) (hd : d ≤ 1000) :
  Calls Tryz.prog 90 #[.pointer (some ⟨g, 0, none⟩), .int .i64 i, .agg #[.int .i64 b, .int .i64 d]] w (UsePost (BufAt g 0) M w (emit (0 ≤ i + b ∧ i + b ≤ 20) (varT (i + b)) d s)) := by
 have hlt := hbuf.lt
 rw [emit_varT hbuf.le]
 have HV := tuck (indexValid_any (i + b))
 by_cases hv : 0 ≤ i + b ∧ i + b ≤ 20
 ·rw [if_pos hv]
  rw [show decide (0 ≤ i + b ∧ i + b ≤ 20) = true by simpa using hv] at HV
  have HA : Hid (Calls Tryz.prog 95 #[.pointer (some ⟨g, 0, none⟩), .agg #[.int .i64 1, .int .i64 (i + b), .int .i64 0], .agg #[.int .i64 b, .int .i64 d]] (w.alloc (.cells #[.int .i64 b, .int .i64 d] 163)) (UsePost (BufAt g 0) M (w.alloc (.cells #[.int .i64 b, .int .i64 d] 163)) (addNode 1 (i + b) 0 d s))) := tuck (addNode_any g s 1 (i + b) 0 b d (w.alloc (.cells #[.int .i64 b, .int .i64 d] 163)) M (hbuf.below _ _ _ _ (below1 _ _)) hd0 hd)
  have HP : Hid (∀ e w', UsePost (BufAt g 0) M (w.alloc (.cells #[.int .i64 b, .int .i64 d] 163)) (addNode 1 (i + b) 0 d s) e w' → UsePost (BufAt g 0) M w (addNode 1 (i + b) 0 d s) e w') := fun e w' ⟨M', h1, h2, h3⟩ => ⟨M', (Step.of_below (below1 _ _) hlt).trans h1, h2, h3⟩
  generalize UsePost (BufAt g 0) M w (addNode 1 (i + b) 0 d s) = post at *
  clear hv hbuf hlt
  go_enter Tryz.func90, Tryz.ntmps90
  go_wp2_with (go_at_call 87; refine (HV.out _).mono ?_; rintro e w' ⟨rfl, rfl⟩)
  refine HA.out.mono ?_
  rintro e w2 hp
  have HPP := tuck (HP.out e w2 hp)
  obtain ⟨M', _, rfl, _⟩ := hp
  go_wp2_with fail
  exact HPP.out
 ·rw [if_neg hv]
  rw [show decide (0 ≤ i + b ∧ i + b ≤ 20) = false by simpa using hv] at HV
  have HN : Hid (∀ w', Below w.heap.size w w' → UsePost (BufAt g 0) M w none (.returned (.bool false)) w') := fun w' hb => ⟨M, Step.of_below hb hlt, rfl, fun _ h => by cases h⟩
  generalize UsePost (BufAt g 0) M w none = post at *
  clear hv hbuf hlt
  go_enter Tryz.func90, Tryz.ntmps90
  go_wp2_with (go_at_call 87; refine (HV.out _).mono ?_; rintro e w' ⟨rfl, rfl⟩)
  exact HN.out _ (below1 _ _)
def UseRepl (D L : Int) (w0 : World) (M0 : Nat → Prop) (g : Nat) (f : FuncId) (cs : Array Value) (ok : Int → Int → Prop) (ρ : Int → Int → Tm) : Prop :=
 ∀ (w : World) (s : Nodes) (M : Nat → Prop) (i b d : Int), Step M0 w0 w M → BufAt g 0 s M w → 0 ≤ i → i ≤ 20 → i < L → 0 ≤ b → b ≤ D → 0 ≤ d → d ≤ D →
  Calls Tryz.prog f (#[.pointer (some ⟨g, 0, none⟩), .int .i64 i, .agg #[.int .i64 b, .int .i64 d]] ++ cs) w (UsePost (BufAt g 0) M w (emit (ok i b) (ρ i b) d s))
set_option maxRecDepth 100000 in
theorem copy1_ok {D L : Int} (hD : D ≤ 900) {u0 w0 : World} {M0 : Nat → Prop} {g : Nat} {f : FuncId} {cs : Array Value} {ok : Int → Int → Prop} {ρ : Int → Int → Tm} {gu gp : Nat}
  (hcf : ∀ (args : Array Value) (w : World), (callFunc f args).run Tryz.prog w = .ok (.enter f args) w) (hgu : gu < w0.heap.size) (hgm : ¬ M0 gu) (hgc : w0.cell? ⟨gu, 0, none⟩ = some (.func (.func f) #[] cs))
  (hgp : gp < w0.heap.size) (hgpm : ¬ M0 gp) (hgpc : w0.cell? ⟨gp, 0, none⟩ = some (.pointer (some ⟨g, 0, none⟩))) (hU : UseRepl D L w0 M0 g f cs ok ρ) :
  UseOk D L u0 w0 M0 (BufAt g 0) 98 #[.pointer (some ⟨gu, 0, none⟩), .pointer (some ⟨gp, 0, none⟩)] (copyStep ok ρ) := by
 intro w s M x v b d hstep hst hroot hmo hin hb hb1 hd hd1
 obtain ⟨a, cap, rfl⟩ := hin.form
 obtain ⟨hn0, hn1⟩ := root_num hroot
 have HF := tuck (freeOf_any b d x.kind x.num (.slice a x.kids.length cap) ((w.alloc (.cells #[.int .i64 x.kind, .int .i64 x.num, .slice a x.kids.length cap] 25)).alloc (.cells #[.int .i64 b, .int .i64 d] 163)) hb (by omega) hn0 (by omega))
 have hcu := (hstep.cell (p := ⟨gu, 0, none⟩) hgu hgm).trans hgc
 have hcp := (hstep.cell (p := ⟨gp, 0, none⟩) hgp hgpm).trans hgpc
 have hgw : gu < w.heap.size := Nat.lt_of_lt_of_le hgu hstep.size
 have hgpw : gp < w.heap.size := Nat.lt_of_lt_of_le hgp hstep.size
 have HSTEP := tuck hstep
 have HST := tuck hst
 have HU := tuck hU
 clear hstep hst hU hin hroot
 show Calls Tryz.prog _ #[.agg #[.int .i64 x.kind, .int .i64 x.num, .slice a x.kids.length cap], .agg #[.int .i64 b, .int .i64 d], .pointer (some ⟨gu, 0, none⟩), .pointer (some ⟨gp, 0, none⟩)] w _
 by_cases hk : x.kind = 1 ∧ b ≤ x.num
 ·have HE : Hid (freeRes x.kind x.num b = .tuple #[.int .i64 (x.num - b), .bool true]) := if_pos hk
  have HG : Hid (copyStep ok ρ s x b d = emit (ok (x.num - b) b) (ρ (x.num - b) b) d s) := by show _ = _; unfold copyStep; rw [if_pos hk]
  rw [HE.out] at HF
  rw [HG.out]
  have hi0 : 0 ≤ x.num - b := by omega
  have hi1 : x.num - b ≤ 20 := by omega
  have hi2 : x.num - b < L := by rw [x.most_eq, if_pos hk] at hmo; omega
  clear hk HE HG hmo
  have HP : Hid (∀ w1 e w', Below w.heap.size w w1 → UsePost (BufAt g 0) M w1 (emit (ok (x.num - b) b) (ρ (x.num - b) b) d s) e w' → UsePost (BufAt g 0) M w (emit (ok (x.num - b) b) (ρ (x.num - b) b) d s) e w') := fun w1 e w' hb ⟨M', h1, h2, h3⟩ => ⟨M', (Step.of_below hb HSTEP.out.lt).trans h1, h2, h3⟩
  have HC : Hid (∀ w1, Below w.heap.size w w1 → Calls Tryz.prog f (#[.pointer (some ⟨g, 0, none⟩), .int .i64 (x.num - b), .agg #[.int .i64 b, .int .i64 d]] ++ cs) w1 (UsePost (BufAt g 0) M w1 (emit (ok (x.num - b) b) (ρ (x.num - b) b) d s))) := fun w1 hb' => HU.out w1 s M (x.num - b) b d (HSTEP.out.and hb') (HST.out.below _ _ _ _ hb') hi0 hi1 hi2 hb hb1 hd hd1
  generalize UsePost (BufAt g 0) M w (emit (ok (x.num - b) b) (ρ (x.num - b) b) d s) = post at *
  generalize emit (ok (x.num - b) b) (ρ (x.num - b) b) d s = res at *
  generalize x.num - b = i at *
  go_enter Tryz.func98, Tryz.ntmps98
  go_wp2_with fail
  refine HF.out.mono ?_
  rintro e w1 ⟨rfl, hb1'⟩
  have hb2 := bAfter (below2 _ _ _) hb1'
  have hcu1 := (hb2.cell (p := ⟨gu, 0, none⟩) hgw).trans hcu
  have hcp1 := (hb2.cell (p := ⟨gp, 0, none⟩) hgpw).trans hcp
  have s0 : w1.cell? ⟨w.heap.size + 1, 0, none⟩ = some (.int .i64 b) := (hb1'.cell (p := ⟨w.heap.size + 1, 0, none⟩) (by simp)).trans (by go_simp)
  have s1 : w1.cell? ⟨w.heap.size + 1, 1, none⟩ = some (.int .i64 d) := (hb1'.cell (p := ⟨w.heap.size + 1, 1, none⟩) (by simp)).trans (by go_simp)
  have HB2 := tuck hb2
  clear hb1' hb2 hcu hcp HF
  go_wp2_with fail
  refine (HC.out _ HB2.out).mono ?_
  rintro e w2 hp
  have HPP := tuck (HP.out w1 e w2 HB2.out hp)
  obtain ⟨M', _, rfl, _⟩ := hp
  go_wp2_with fail
  exact HPP.out
 ·have HE : Hid (freeRes x.kind x.num b = .tuple #[.int .i64 0, .bool false]) := if_neg hk
  have HG : Hid (copyStep ok ρ s x b d = addNode x.kind x.num x.kids.length d s) := by show _ = _; unfold copyStep; rw [if_neg hk]
  rw [HE.out] at HF
  rw [HG.out]
  clear hk HE HG
  have HP : Hid (∀ w1 e w', Below w.heap.size w w1 → UsePost (BufAt g 0) M w1 (addNode x.kind x.num x.kids.length d s) e w' → UsePost (BufAt g 0) M w (addNode x.kind x.num x.kids.length d s) e w') := fun w1 e w' hb ⟨M', h1, h2, h3⟩ => ⟨M', (Step.of_below hb HSTEP.out.lt).trans h1, h2, h3⟩
  have HC : Hid (∀ w1, Below w.heap.size w w1 → Calls Tryz.prog 95 #[.pointer (some ⟨g, 0, none⟩), .agg #[.int .i64 x.kind, .int .i64 x.num, .int .i64 x.kids.length], .agg #[.int .i64 b, .int .i64 d]] w1 (UsePost (BufAt g 0) M w1 (addNode x.kind x.num x.kids.length d s))) := fun w1 hb' => addNode_any g s x.kind x.num x.kids.length b d w1 M (HST.out.below _ _ _ _ hb') hd (by omega)
  generalize UsePost (BufAt g 0) M w (addNode x.kind x.num x.kids.length d s) = post at *
  generalize addNode x.kind x.num x.kids.length d s = res at *
  go_enter Tryz.func98, Tryz.ntmps98
  go_wp2_with fail
  refine HF.out.mono ?_
  rintro e w1 ⟨rfl, hb1'⟩
  have hb2 := bAfter (below2 _ _ _) hb1'
  have hcp1 := (hb2.cell (p := ⟨gp, 0, none⟩) hgpw).trans hcp
  have s0 : w1.cell? ⟨w.heap.size + 1, 0, none⟩ = some (.int .i64 b) := (hb1'.cell (p := ⟨w.heap.size + 1, 0, none⟩) (by simp)).trans (by go_simp)
  have s1 : w1.cell? ⟨w.heap.size + 1, 1, none⟩ = some (.int .i64 d) := (hb1'.cell (p := ⟨w.heap.size + 1, 1, none⟩) (by simp)).trans (by go_simp)
  have x0 : w1.cell? ⟨w.heap.size, 0, none⟩ = some (.int .i64 x.kind) := (hb1'.cell (p := ⟨w.heap.size, 0, none⟩) (by simp; omega)).trans (by go_simp)
  have x1 : w1.cell? ⟨w.heap.size, 1, none⟩ = some (.int .i64 x.num) := (hb1'.cell (p := ⟨w.heap.size, 1, none⟩) (by simp; omega)).trans (by go_simp)
  have x2 : w1.cell? ⟨w.heap.size, 2, none⟩ = some (.slice a x.kids.length cap) := (hb1'.cell (p := ⟨w.heap.size, 2, none⟩) (by simp; omega)).trans (by go_simp)
  have HB2 := tuck hb2
  clear hb1' hb2 hcu hcp HF
  go_wp2_with fail
  refine (HC.out _ HB2.out).mono ?_
  rintro e w2 hp
  have HPP := tuck (HP.out w1 e w2 HB2.out hp)
  obtain ⟨M', _, rfl, _⟩ := hp
  go_wp2_with fail
  exact HPP.out
set_option maxRecDepth 100000 in
theorem copyTerm_any {D L : Int} (hD : D ≤ 900) {u0 w : World} {M : Nat → Prop} {g : Nat} {f : FuncId} {cs : Array Value} {ok : Int → Int → Prop} {ρ : Int → Int → Tm} {s : Nodes} {b d : Int} (t : Tm) (v : Value)
  (hu : Below u0.heap.size u0 w) (hM : ∀ i, M i → u0.heap.size ≤ i) (hcf : ∀ (args : Array Value) (w : World), (callFunc f args).run Tryz.prog w = .ok (.enter f args) w) (hU : UseRepl D L w M g f cs ok ρ) (hst : BufAt g 0 s M w)
  (hok : t.allOk) (hmo : t.most b ≤ L) (hin : TmIn u0 0 t v) (hb0 : 0 ≤ b) (hb1 : b + t.hgt ≤ D) (hd0 : 0 ≤ d) (hd1 : d + t.hgt ≤ D) :
  Calls Tryz.prog 92 #[.pointer (some ⟨g, 0, none⟩), v, .agg #[.int .i64 b, .int .i64 d], .func (.func f) #[] cs] w (UsePost (BufAt g 0) M w (emit (t.okAll ok b) (t.repl ρ b) d s)) := by
 obtain ⟨sv, rfl, hs⟩ := hin
 obtain ⟨a, cap, rfl⟩ := hs.form
 have hlt := hst.lt
 have hb4 : Below w.heap.size w ((((w.alloc (.cells #[.pointer (some ⟨g, 0, none⟩)] 161)).alloc (.cells #[.int .i64 t.kind, .int .i64 t.num, .slice a t.kids.length cap] 25)).alloc (.cells #[.int .i64 b, .int .i64 d] 163)).alloc (.cells #[.func (.func f) #[] cs] 167)) := bAfter (below3 _ _ _ _) (below1 _ _)
 have hgu : ((((w.alloc (.cells #[.pointer (some ⟨g, 0, none⟩)] 161)).alloc (.cells #[.int .i64 t.kind, .int .i64 t.num, .slice a t.kids.length cap] 25)).alloc (.cells #[.int .i64 b, .int .i64 d] 163)).alloc (.cells #[.func (.func f) #[] cs] 167)).cell? ⟨w.heap.size + 1 + 1 + 1, 0, none⟩ = some (.func (.func f) #[] cs) := by go_simp
 have hgp : ((((w.alloc (.cells #[.pointer (some ⟨g, 0, none⟩)] 161)).alloc (.cells #[.int .i64 t.kind, .int .i64 t.num, .slice a t.kids.length cap] 25)).alloc (.cells #[.int .i64 b, .int .i64 d] 163)).alloc (.cells #[.func (.func f) #[] cs] 167)).cell? ⟨w.heap.size, 0, none⟩ = some (.pointer (some ⟨g, 0, none⟩)) := by go_simp
 have HE : Hid (Calls Tryz.prog 97 #[.agg #[.int .i64 t.kind, .int .i64 t.num, .slice a t.kids.length cap], .agg #[.int .i64 b, .int .i64 d], .func (.func 98) #[] #[.pointer (some ⟨w.heap.size + 1 + 1 + 1, 0, none⟩), .pointer (some ⟨w.heap.size, 0, none⟩)]]
   ((((w.alloc (.cells #[.pointer (some ⟨g, 0, none⟩)] 161)).alloc (.cells #[.int .i64 t.kind, .int .i64 t.num, .slice a t.kids.length cap] 25)).alloc (.cells #[.int .i64 b, .int .i64 d] 163)).alloc (.cells #[.func (.func f) #[] cs] 167))
   (UsePost (BufAt g 0) M ((((w.alloc (.cells #[.pointer (some ⟨g, 0, none⟩)] 161)).alloc (.cells #[.int .i64 t.kind, .int .i64 t.num, .slice a t.kids.length cap] 25)).alloc (.cells #[.int .i64 b, .int .i64 d] 163)).alloc (.cells #[.func (.func f) #[] cs] 167)) (emit (t.okAll ok b) (t.repl ρ b) d s))) := by
  have huse := copy1_ok hD (u0 := u0) (M0 := M) (g := g) (ok := ok) (ρ := ρ) (gu := w.heap.size + 1 + 1 + 1) (gp := w.heap.size) hcf (by simp) (fun h => by have := hlt _ h; omega) hgu (by simp; omega) (fun h => by have := hlt _ h; omega) hgp (fun w' s M' i b' d' h1 h2 h3 h4 h5 h6 h7 h8 h9 => hU w' s M' i b' d' ((Step.of_below hb4 hlt).trans h1) h2 h3 h4 h5 h6 h7 h8 h9)
  have hh := t.hgt_eq
  have h := each_any hD BufAt.below (bAfter hu hb4) hM (fun _ _ => by kernel_rfl) huse t.kids t.kind t.num b d _ s M _ (Step.refl (fun i hi => Nat.lt_of_lt_of_le (hlt i hi) hb4.size)) (hst.below _ _ _ _ hb4) (by rw [Tm.eta]; exact hok) (by rw [Tm.eta]; exact hmo) hs hb0 (by omega) hd0 (by omega)
  rw [Tm.eta, Tm.trav_copy ok ρ t b d s hok hst.le] at h
  exact h
 have HP : Hid (∀ e w', UsePost (BufAt g 0) M ((((w.alloc (.cells #[.pointer (some ⟨g, 0, none⟩)] 161)).alloc (.cells #[.int .i64 t.kind, .int .i64 t.num, .slice a t.kids.length cap] 25)).alloc (.cells #[.int .i64 b, .int .i64 d] 163)).alloc (.cells #[.func (.func f) #[] cs] 167)) (emit (t.okAll ok b) (t.repl ρ b) d s) e w' →
   UsePost (BufAt g 0) M w (emit (t.okAll ok b) (t.repl ρ b) d s) e w') := fun e w' ⟨M', h1, h2, h3⟩ => ⟨M', (Step.of_below hb4 hlt).trans h1, h2, h3⟩
 generalize UsePost (BufAt g 0) M w (emit (t.okAll ok b) (t.repl ρ b) d s) = post at *
 generalize emit (t.okAll ok b) (t.repl ρ b) d s = res at *
 clear hst hok hs hU hM hcf hlt hb4 hgu hgp hu
 go_enter Tryz.func92, Tryz.ntmps92
 go_wp2_with fail
 refine HE.out.mono ?_
 rintro e w2 hp
 have HPP := tuck (HP.out e w2 hp)
 obtain ⟨M', _, rfl, _⟩ := hp
 go_wp2_with fail
 exact HPP.out
theorem ins1_ok {D L : Int} (hD : D ≤ 900) {w0 : World} {M0 : Nat → Prop} {g gs : Nat} {B : Int} (hB : 0 ≤ B) (hB1 : B ≤ 1000) (hgs : gs < w0.heap.size) (hgm : ¬ M0 gs) (hgc : w0.cell? ⟨gs, 0, none⟩ = some (.int .i64 B)) :
  UseRepl D L w0 M0 g 96 #[.pointer (some ⟨gs, 0, none⟩)] (insMay B) (insTo B) := by
 intro w s M i b d hstep hst hi0 hi1 _ hb0 hb1 hd0 hd1
 have hlt := hst.lt
 have hc := (hstep.cell (p := ⟨gs, 0, none⟩) hgs hgm).trans hgc
 have hgw : gs < w.heap.size := Nat.lt_of_lt_of_le hgs hstep.size
 have HA := tuck (addVar_any g s (i + B) b d (w.alloc (.cells #[.int .i64 b, .int .i64 d] 163)) M (hst.below _ _ _ _ (below1 _ _)) (by omega) (by omega) hb0 (by omega) hd0 (by omega))
 have HP : Hid (∀ e w', UsePost (BufAt g 0) M (w.alloc (.cells #[.int .i64 b, .int .i64 d] 163)) (emit (0 ≤ i + B + b ∧ i + B + b ≤ 20) (varT (i + B + b)) d s) e w' → UsePost (BufAt g 0) M w (emit (insMay B i b) (insTo B i b) d s) e w') := fun e w' ⟨M', h1, h2, h3⟩ => ⟨M', (Step.of_below (below1 _ _) hlt).trans h1, h2, h3⟩
 show Calls Tryz.prog _ #[.pointer (some ⟨g, 0, none⟩), .int .i64 i, .agg #[.int .i64 b, .int .i64 d], .pointer (some ⟨gs, 0, none⟩)] w _
 generalize UsePost (BufAt g 0) M w (emit (insMay B i b) (insTo B i b) d s) = post at *
 clear hstep hst hgc hlt
 go_enter Tryz.func96, Tryz.ntmps96
 go_wp2_with fail
 refine HA.out.mono ?_
 rintro e w2 hp
 have HPP := tuck (HP.out e w2 hp)
 obtain ⟨M', _, rfl, _⟩ := hp
 go_wp2_with fail
 exact HPP.out
set_option maxRecDepth 100000 in
theorem insert_any {u0 w : World} {M : Nat → Prop} {g : Nat} {s : Nodes} {b d : Int} (t : Tm) (v : Value) (hu : Below u0.heap.size u0 w) (hM : ∀ i, M i → u0.heap.size ≤ i) (hst : BufAt g 0 s M w)
  (hok : t.allOk) (hin : TmIn u0 0 t v) (hh : t.hgt ≤ 100) (hb0 : 0 ≤ b) (hb1 : b ≤ 200) (hd0 : 0 ≤ d) (hd1 : d ≤ 200) :
  Calls Tryz.prog 91 #[.pointer (some ⟨g, 0, none⟩), v, .agg #[.int .i64 b, .int .i64 d]] w (UsePost (BufAt g 0) M w (emit (t.okAll (insMay b) 0) (t.repl (insTo b) 0) d s)) := by
 obtain ⟨sv, rfl, hs⟩ := hin
 obtain ⟨a, cap, rfl⟩ := hs.form
 have hlt := hst.lt
 have hb2 : Below w.heap.size w ((w.alloc (.cells #[.int .i64 t.kind, .int .i64 t.num, .slice a t.kids.length cap] 25)).alloc (.cells #[.int .i64 b, .int .i64 d] 163)) := below2 _ _ _
 have hgc : ((w.alloc (.cells #[.int .i64 t.kind, .int .i64 t.num, .slice a t.kids.length cap] 25)).alloc (.cells #[.int .i64 b, .int .i64 d] 163)).cell? ⟨w.heap.size + 1, 0, none⟩ = some (.int .i64 b) := by go_simp
 have HC := tuck (copyTerm_any (D := 400) (L := 21) (by omega) (u0 := u0) (s := s) (b := 0) (d := d) t _ (bAfter hu hb2) hM (fun _ _ => by kernel_rfl) (ins1_ok (by omega) (w0 := ((w.alloc (.cells #[.int .i64 t.kind, .int .i64 t.num, .slice a t.kids.length cap] 25)).alloc (.cells #[.int .i64 b, .int .i64 d] 163))) (M0 := M) (g := g) (gs := w.heap.size + 1) hb0 (by omega) (by simp) (fun h => by have := hlt _ h; omega) hgc) (hst.below _ _ _ _ hb2) hok (t.most_bd 0 hok (Int.le_refl 0)).2 ⟨_, rfl, hs⟩ (by omega) (by omega) hd0 (by omega))
 have HP : Hid (∀ e w', UsePost (BufAt g 0) M ((w.alloc (.cells #[.int .i64 t.kind, .int .i64 t.num, .slice a t.kids.length cap] 25)).alloc (.cells #[.int .i64 b, .int .i64 d] 163)) (emit (t.okAll (insMay b) 0) (t.repl (insTo b) 0) d s) e w' → UsePost (BufAt g 0) M w (emit (t.okAll (insMay b) 0) (t.repl (insTo b) 0) d s) e w') := fun e w' ⟨M', h1, h2, h3⟩ => ⟨M', (Step.of_below hb2 hlt).trans h1, h2, h3⟩
 generalize UsePost (BufAt g 0) M w (emit (t.okAll (insMay b) 0) (t.repl (insTo b) 0) d s) = post at *
 generalize emit (t.okAll (insMay b) 0) (t.repl (insTo b) 0) d s = res at *
 clear hst hok hs hM hlt hb2 hgc hu
 go_enter Tryz.func91, Tryz.ntmps91
 go_wp2_with fail
 refine HC.out.mono ?_
 rintro e w2 hp
 have HPP := tuck (HP.out e w2 hp)
 obtain ⟨M', _, rfl, _⟩ := hp
 go_wp2_with fail
 exact HPP.out
theorem emit_iff {p q : Prop} (h : p ↔ q) (r : Tm) (d : Int) (s : Nodes) : emit p r d s = emit q r d s := by rw [propext h]
end Go.Proofs.YtlbikgnanabjgaaGreat
