/-
  impl.termBuffer: what it holds ('BufAt'); add, addVar.
-/
import Derived.Test.YtmihfbopahoejaaFree
import Derived.Deep.RegionLaw
import Derived.Deep.AppendLies
import Derived.OwnWalk
import Derived.Laws.AppendOwn
namespace Go.Proofs.Ytmihfbopahoejaa
open Go.RowKit

/-- The cells of a row of nodes. -/
def nodeCells : Nodes → List Value
  | [] => []
  | (k, n, m) :: s => .int .i64 k :: .int .i64 n :: .int .i64 m :: nodeCells s
theorem nodeCells_append : ∀ s t : Nodes, nodeCells (s ++ t) = nodeCells s ++ nodeCells t
  | [], t => rfl
  | (k, n, m) :: s, t => by simp only [List.cons_append, nodeCells, nodeCells_append s t]
theorem nodeCells_length : ∀ s : Nodes, (nodeCells s).length = s.length * 3
  | [] => rfl
  | (k, n, m) :: s => by simp only [nodeCells, List.length_cons, nodeCells_length s]; omega

/-- Block g is a buffer that holds the nodes s, p of them taken; it and its row may turn. -/
def BufAt (g : Nat) (p : Nat) (s : Nodes) (M : Nat → Prop) (w : World) : Prop :=
  ∃ v, w.heap[g]? = some (.cells #[v, .int .i64 p] 93 (0, 0)) ∧ w.ownsRow (g + 1) 99 3 v s.length (nodeCells s) ∧ s.length ≤ 400 ∧ M = fun i => i = g ∨ v.ownBlock = some i

theorem grown_of_below {w w' : World} (hb : Below w.heap.size w w') : w.grownBy w' none := ⟨hb.os, hb.tape, hb.output, hb.size, fun k hk _ => hb.block k hk⟩

theorem own_form {w : World} {base : Nat} {e : TypeId} {size : Nat} {v : Value} {n : Nat} {xs : List Value} (h : w.ownsRow base e size v n xs) : ∃ a cap, v = .slice a n cap := by
  rcases h.2 with ⟨h1, h2⟩ | ⟨g, cap, _, h1, _⟩
  · exact ⟨none, 0, by rw [h1, h2]⟩
  · exact ⟨_, _, h1⟩

theorem BufAt.below {g p : Nat} : ∀ (s : Nodes) (M : Nat → Prop) (w w' : World), BufAt g p s M w → Below w.heap.size w w' → BufAt g p s M w' := fun s M w w' ⟨v, h1, h2, h3, h4⟩ hb =>
  ⟨v, (hb.block g (block_of_cells h1).1).trans h1, h2.kept (grown_of_below hb) (by cases v.ownBlock <;> simp), h3, h4⟩

theorem BufAt.lt {g p : Nat} {s : Nodes} {M : Nat → Prop} {w : World} (h : BufAt g p s M w) : ∀ i, M i → i < w.heap.size := by
  obtain ⟨v, h1, h2, h3, rfl⟩ := h
  rintro i (rfl | hi)
  · exact (block_of_cells h1).1
  · exact (h2.lt i hi).2

theorem info_node : (Try.prog.info? 99).map (fun i => (i.zero, i.size, i.bytes)) = some (some (.agg #[.int .i64 0, .int .i64 0, .int .i64 0]), 3, 24) := by kernel_rfl

/-- Behind an append and the store of its slice. -/
theorem buf_push {g : Nat} {s : Nodes} {k n : Int} {m : Nat} {M : Nat → Prop} {v : Value} {w W w1 : World} {gg cap : Nat} (hs : s.length < 400) (h1 : w.heap[g]? = some (.cells #[v, .int .i64 (0 : Nat)] 93 (0, 0)))
    (h2 : w.ownsRow (g + 1) 99 3 v s.length (nodeCells s)) (hM : M = fun i => i = g ∨ v.ownBlock = some i) (hb : Below w.heap.size w W)
    (hown : w1.ownsRow (g + 1) 99 3 (.slice (some ⟨gg, 0, none⟩) (s.length + 1) cap) (s.length + 1) (nodeCells s ++ [.int .i64 k, .int .i64 n, .int .i64 m])) (hgrow : W.grownBy w1 v.ownBlock)
    (hat : v.ownBlock = some gg ∨ gg = W.heap.size) :
    UsePost (BufAt g 0) M w (some (s ++ [(k, n, m)])) (.returned (.bool true)) (w1.setCell ⟨g, 0, none⟩ (.slice (some ⟨gg, 0, none⟩) (s.length + 1) cap)) := by
  have hgb := (block_of_cells h1).1
  have hgg := hown.lt gg rfl
  have hgW : W.heap[g]? = w.heap[g]? := hb.block g hgb
  have hne : some g ≠ v.ownBlock := fun e => by have := h2.lt g e.symm; omega
  have hgv : g < W.heap.size := Nat.lt_of_lt_of_le hgb hb.size
  have hc1 : w1.heap[g]? = some (.cells #[v, .int .i64 (0 : Nat)] 93 (0, 0)) := (hgrow.block g hgv hne).trans (hgW.trans h1)
  have hlt : ∀ i, M i → i < w.heap.size := by
    subst hM
    rintro i (rfl | hi)
    · exact hgb
    · exact (h2.lt i hi).2
  refine ⟨fun i => i = g ∨ gg = i, ⟨hgrow.os.trans hb.os, hgrow.tape.trans hb.tape, hgrow.output.trans hb.output, ?_, fun i hi hn => ?_, fun i hi hm => ?_, ?_⟩, rfl, fun s' hs' => ?_⟩
  · show w.heap.size ≤ (w1.setCell _ _).heap.size
    have := hb.size
    have := hgrow.size
    simp only [World.setCell, Array.size_modify]
    omega
  · rw [Below.heap_setCell _ _ _ _ (fun e => hn (by rw [hM]; exact Or.inl e))]
    exact (hgrow.block i (Nat.lt_of_lt_of_le hi hb.size) (fun e => hn (by rw [hM]; exact Or.inr e.symm))).trans (hb.block i hi)
  · rw [hM]
    rcases hm with hm | hm
    · exact Or.inl hm
    · rcases hat with hat | hat
      · exact Or.inr (by rw [hat, hm])
      · have := hb.size
        omega
  · rintro i (rfl | hi)
    · have := hgrow.size
      simp only [World.setCell, Array.size_modify]
      omega
    · simp only [World.setCell, Array.size_modify]
      omega
  · cases hs'
    refine ⟨.slice (some ⟨gg, 0, none⟩) (s.length + 1) cap, ?_, ?_, ?_, ?_⟩
    · have := block_set hc1 0 (.slice (some ⟨gg, 0, none⟩) (s.length + 1) cap)
      simpa using this
    · rw [nodeCells_append, List.length_append]
      refine ownsRow_setCell_other hown ?_ _
      intro e
      simp only [Value.ownBlock, Option.some.injEq] at e
      omega
    · rw [List.length_append]
      simp
      omega
    · funext i
      simp only [Value.ownBlock, Option.some.injEq]

theorem below_drew_alloc (w : World) (o : Obj) : Below w.heap.size w (w.alloc o).drew := (below1 w o).drew

set_option maxRecDepth 100000 in
theorem addNode_any (g : Nat) (s : Nodes) (k n : Int) (m : Nat) (b d : Int) (w : World) (M : Nat → Prop) (hbuf : BufAt g 0 s M w) (hd0 : 0 ≤ d) (hd : d ≤ 1000) :
    Calls Try.prog 80 #[.pointer (some ⟨g, 0, none⟩), .agg #[.int .i64 k, .int .i64 n, .int .i64 m], .agg #[.int .i64 b, .int .i64 d]] w (UsePost (BufAt g 0) M w (addNode k n m d s)) := by
  have hlt := hbuf.lt
  obtain ⟨v, h1, h2, h3, hM⟩ := hbuf
  obtain ⟨va, vc, rfl⟩ := own_form h2
  obtain ⟨z, e0, ef⟩ := block_of_cells h1
  have c0 : w.cell? ⟨g, 0, none⟩ = some (.slice va s.length vc) := e0 0
  have f0 := ef 0
  have HN : Hid (∀ w', Below w.heap.size w w' → UsePost (BufAt g 0) M w none (.returned (.bool false)) w') := fun w' hb => ⟨M, Step.of_below hb hlt, rfl, fun _ h => by cases h⟩
  by_cases hl : s.length = 400
  · rw [show addNode k n m d s = none from if_pos (Or.inl hl)]
    have g0 : ((s.length : Int) == 400) = true := by simp; omega
    generalize UsePost (BufAt g 0) M w none = post at *
    clear hl e0 ef
    go_enter Try.func80, Try.ntmps80
    go_wp2_with fail
    exact HN.out _ (below2 _ _ _)
  · have g0 : ((s.length : Int) == 400) = false := by simp; omega
    by_cases hdd : 30 < d
    · rw [show addNode k n m d s = none from if_pos (Or.inr hdd)]
      have g1 : decide (30 < d) = true := by simpa using hdd
      generalize UsePost (BufAt g 0) M w none = post at *
      clear hl e0 ef hdd
      go_enter Try.func80, Try.ntmps80
      go_wp2_with fail
      exact HN.out _ (below2 _ _ _)
    · rw [show addNode k n m d s = some (s ++ [(k, n, m)]) from if_neg (by omega)]
      have g1 : decide (30 < d) = false := by simpa using hdd
      have hs : s.length < 400 := by omega
      have hmx : s.length + 1 ≤ maxLen := by unfold maxLen; omega
      have hby : (s.length + 1) * 24 ≤ 140737488355328 := by omega
      have HP : Hid (∀ (W w1 : World) (gg cap : Nat), Below w.heap.size w W → w1.ownsRow (g + 1) 99 3 (.slice (some ⟨gg, 0, none⟩) (s.length + 1) cap) (s.length + 1) (nodeCells s ++ [.int .i64 k, .int .i64 n, .int .i64 m]) → W.grownBy w1 (Value.slice va s.length vc).ownBlock →
          ((Value.slice va s.length vc).ownBlock = some gg ∨ gg = W.heap.size) → UsePost (BufAt g 0) M w (some (s ++ [(k, n, m)])) (.returned (.bool true)) (w1.setCell ⟨g, 0, none⟩ (.slice (some ⟨gg, 0, none⟩) (s.length + 1) cap))) :=
        fun W w1 gg cap a1 a2 a3 a4 => buf_push hs h1 h2 hM a1 a2 a3 a4
      have hb2 : Below w.heap.size w ((w.alloc (.cells #[.int .i64 k, .int .i64 n, .int .i64 m] 99)).alloc (.cells #[.int .i64 b, .int .i64 d] 65)) := below2 _ _ _
      have hbx : ((w.alloc (.cells #[.int .i64 k, .int .i64 n, .int .i64 m] 99)).alloc (.cells #[.int .i64 b, .int .i64 d] 65)).heap[w.heap.size]? = some (.cells #[.int .i64 k, .int .i64 n, .int .i64 m] 99 (0, 0)) := (Below.heap_alloc _ _ _ (by simp)).trans (heap_new _ _)
      have HOWN := tuck (h2.kept (grown_of_below hb2) (by cases (Value.slice va s.length vc).ownBlock <;> simp))
      have c0' := (hb2.cell (p := ⟨g, 0, none⟩) z).trans c0
      have f0' := (hb2.frozen (p := ⟨g, 0, none⟩) z).trans f0
      have hgr : some g ≠ (Value.slice va s.length vc).ownBlock := fun e => by have := h2.lt g e.symm; omega
      obtain ⟨i0, hi0, hz0, hz1, hz2⟩ := info_parts info_node
      have HB2 := tuck hb2
      have HGR := tuck hgr
      have HBX := tuck hbx
      have hgz : g < ((w.alloc (.cells #[.int .i64 k, .int .i64 n, .int .i64 m] 99)).alloc (.cells #[.int .i64 b, .int .i64 d] 65)).heap.size := Nat.lt_of_lt_of_le z hb2.size
      have x0 : ((w.alloc (.cells #[.int .i64 k, .int .i64 n, .int .i64 m] 99)).alloc (.cells #[.int .i64 b, .int .i64 d] 65)).cell? ⟨w.heap.size, 0, none⟩ = some (.int .i64 k) := by go_simp
      have x1 : ((w.alloc (.cells #[.int .i64 k, .int .i64 n, .int .i64 m] 99)).alloc (.cells #[.int .i64 b, .int .i64 d] 65)).cell? ⟨w.heap.size, 1, none⟩ = some (.int .i64 n) := by go_simp
      have x2 : ((w.alloc (.cells #[.int .i64 k, .int .i64 n, .int .i64 m] 99)).alloc (.cells #[.int .i64 b, .int .i64 d] 65)).cell? ⟨w.heap.size, 2, none⟩ = some (.int .i64 m) := by go_simp
      have xz : w.heap.size < ((w.alloc (.cells #[.int .i64 k, .int .i64 n, .int .i64 m] 99)).alloc (.cells #[.int .i64 b, .int .i64 d] 65)).heap.size := by simp; omega
      generalize UsePost (BufAt g 0) M w (some (s ++ [(k, n, m)])) = post at *
      clear hl e0 ef hdd h1 h2 hb2 hgr hlt hM
      go_enter Try.func80, Try.ntmps80
      go_wp2_with fail
      generalize ((w.alloc (.cells #[.int .i64 k, .int .i64 n, .int .i64 m] 99)).alloc (.cells #[.int .i64 b, .int .i64 d] 65)) = W0 at *
      clear hbx
      have hown1 : (W0.alloc (.cells #[.int .i64 k, .int .i64 n, .int .i64 m] 99)).drew.ownsRow (g + 1) 99 3 (.slice va s.length vc) s.length (nodeCells s) := HOWN.out.kept (grown_of_below (below_drew_alloc W0 _)) (by cases (Value.slice va s.length vc).ownBlock <;> simp)
      have hnews : ∀ j u, ([.int .i64 k, .int .i64 n, .int .i64 m] : List Value)[j]? = some u → (W0.alloc (.cells #[.int .i64 k, .int .i64 n, .int .i64 m] 99)).drew.cell? ((⟨W0.heap.size, 0, none⟩ : Addr).add j) = some u := World.news_of_block (cs := #[.int .i64 k, .int .i64 n, .int .i64 m]) (t := 99) (fr := (0, 0)) (heap_new W0 _)
      have hone : ∀ u ∈ ([.int .i64 k, .int .i64 n, .int .i64 m] : List Value), u.oneCell' = true := by simp [Value.oneCell']
      have hbase : g + 1 ≤ (W0.alloc (.cells #[.int .i64 k, .int .i64 n, .int .i64 m] 99)).drew.heap.size := by simp; omega
      have hH : (W0.alloc (.cells #[.int .i64 k, .int .i64 n, .int .i64 m] 99)).drew.heap.size = W0.heap.size + 1 := by simp
      have hgl : g < (W0.alloc (.cells #[.int .i64 k, .int .i64 n, .int .i64 m] 99)).drew.heap.size := by simp; omega
      have k0' : (W0.alloc (.cells #[.int .i64 k, .int .i64 n, .int .i64 m] 99)).drew.cell? ⟨g, 0, none⟩ = some (.slice va s.length vc) := ((below_drew_alloc W0 _).cell (p := ⟨g, 0, none⟩) hgz).trans c0'
      have kf' : (W0.alloc (.cells #[.int .i64 k, .int .i64 n, .int .i64 m] 99)).drew.frozen? ⟨g, 0, none⟩ = false := ((below_drew_alloc W0 _).frozen (p := ⟨g, 0, none⟩) hgz).trans f0'
      have HOWN1 := tuck hown1
      have HNEWS := tuck hnews
      have HONE := tuck hone
      have HBASE := tuck hbase
      have HH := tuck hH
      have HGL := tuck hgl
      have K0 := tuck k0'
      have KF := tuck kf'
      clear hown1 hnews hone hbase hH hgl k0' kf'
      go_region_law ((refine step_append_lies _ (by rfl) _ _ _ (by rfl) (g + 1) 99 i0 _ 3 24 Try.underlying91 hi0 hz0 hz1 hz2 rfl (by omega) _ _ _ (by rfl) HOWN1.out ⟨W0.heap.size, 0, none⟩ 1 1 [.int .i64 k, .int .i64 n, .int .i64 m] (by rfl) (by rfl) HNEWS.out HONE.out (by omega) hmx hby HBASE.out (W0.heap.size + 1) HH.out ?_; intro gg cap w1 hown1 hgrow hat hlt1; have k0 := (hgrow.cell_far ⟨g, 0, none⟩ HGL.out HGR.out).trans K0.out; have k1 := (hgrow.frozen_far ⟨g, 0, none⟩ HGL.out HGR.out).trans KF.out))
      all_goals go_wp2_with fail
      all_goals exact HP.out _ w1 gg cap (bAfter HB2.out (below_drew_alloc W0 _)) hown1 hgrow (hat.imp id (fun h => h.trans HH.out.symm))

end Go.Proofs.Ytmihfbopahoejaa
