/-
  PlE, PlS.
-/
import Derived.Test.YtpddjebdncaceaaGreatR03
import Derived.Test.YtpddjebdncaceaaGreatR14
import Derived.Test.YtpddjebdncaceaaGreatR24
import Derived.Test.YtpddjebdncaceaaGreatR26
import Derived.Test.YtpddjebdncaceaaGreatR27
import Derived.Test.YtpddjebdncaceaaGreatR28
import Derived.ChangeAlike
import Derived.RegionTactic
namespace Go.Proofs.YtpddjebdncaceaaGreat
open Go.RowKit
theorem Passed.get {u : World} : ∀ {p : List (Tm × Nat)} {qs : List (Tm × Value × Nat)}, Passed u p qs → ∀ j (h : j < p.length), (entry qs j).1 = p[j].1 ∧ (entry qs j).2.2 = p[j].2 ∧ SlIn u 0 p[j].1.kids (entry qs j).2.1
 | _ :: _, _ :: _, h, 0, _ => ⟨h.1, h.2.1, by
   have := h.2.2.1
   simpa [entry] using this⟩
 | _ :: p, _ :: q, h, j + 1, hj => by
   have := Passed.get (p := p) (qs := q) h.2.2.2 j (by simpa using hj)
   simpa [entry] using this
 | [], [], _, j, h => by simp at h
 | [], _ :: _, h, _, _ => by cases h
 | _ :: _, [], h, _, _ => by cases h
end Go.Proofs.YtpddjebdncaceaaGreat
namespace Go.Proofs.YtpddjebdncaceaaGreat
open Go.RowKit
def ixAt (p : List (Tm × Nat)) : Int → Int := fun j => (((p[j.toNat]?).map (·.2)).getD 0 : Nat)
theorem ixAt_eq (p : List (Tm × Nat)) (j : Nat) (h : j < p.length) : ixAt p (j : Int) = ((p[j].2 : Nat) : Int) := by
 unfold ixAt
 rw [Int.toNat_natCast, List.getElem?_eq_getElem h]
 rfl
set_option maxRecDepth 100000 in
set_option maxHeartbeats 1600000 in
theorem place_any {u w : World} {g : Nat} {t : Tm} {p : List (Tm × Nat)} {M : Nat → Prop} (hp : p.length ≤ 1000) (h : CurAt u g t p M w) :
  Calls Tryz.prog 98 #[.pointer (some ⟨g, 0, none⟩)] w (ToInts w (ixAt p) p.length) := by
 obtain ⟨hu, s, qs, hs, hpas, hst⟩ := h
 obtain ⟨sa, gb, cap, hcv, hgb, hcells⟩ := hst.view
 have hlen := hpas.length
 have zg : g < w.heap.size := World.block_lt_of_cell? w _ hcv
 rw [hlen] at hcv
 have HCE := tuck hcells
 have HGB := tuck hgb
 have HPAS := tuck hpas
 have HLEN := tuck hlen
 have HPOST : Hid (∀ w' cs, Below w.heap.size w w' → w'.heap[w.heap.size]? = some (.cells cs 3 (0, 0)) → cs.size = p.length → (∀ j : Nat, j < p.length → cs[j]? = some (.int .i64 (ixAt p j))) → ToInts w (ixAt p) p.length (.returned (.slice (some ⟨w.heap.size, 0, none⟩) p.length p.length)) w') := tuck fun w' cs h1 h2 h3 h4 => ⟨h1, _, rfl, rfl, cs, h2, h3, h4⟩
 generalize ToInts w (ixAt p) p.length = post at *
 obtain ⟨n, hn⟩ : ∃ n, n = p.length := ⟨_, rfl⟩
 rw [← hn] at hcv HPOST HLEN hp
 have hpg : ∀ q (h : q < n), q < p.length := fun q h => by omega
 have HNN := tuck hn
 clear hst hcells hgb hs hpas hlen hu hn
 obtain ⟨i0, hi, hz0, hz1, hz2⟩ := info_parts info_int
 have hmk : ∀ W : World, (Instr.makeSlice 76 (.int .i64 (n : Int)) (.int .i64 (n : Int))).run Tryz.prog W = .ok (.slice (some ⟨W.heap.size, 0, none⟩) n n) (W.alloc (.cells (madeCells #[.int .i64 0] (n * 1)) 3)) := fun W => by
  have h := run_make (P := Tryz.prog) W 76 3 i0 _ Tryz.underlying76 hi hz0 .i64 .i64 (n : Int) (n : Int) (by omega) (Int.le_refl _) (by rw [hz2]; omega) (by omega)
  rw [hz1] at h
  simpa [Value.cells] using h
 clear hi hz0 hz1 hz2
 go_enter Tryz.func98, Tryz.ntmps98
 go_wp2
 clear hmk
 go_loopw [17] (fun i wr => ∃ (q : Nat) (cs : Array Value), q ≤ n ∧ i = .int .i64 q ∧ Below w.heap.size w wr ∧ wr.heap[w.heap.size]? = some (.cells cs 3 (0, 0)) ∧ cs.size = n ∧ ∀ j : Nat, j < q → cs[j]? = some (.int .i64 (ixAt p j))) (fun i _ => n - (intOf i).toNat)
 case atStart => exact ⟨0, _, Nat.zero_le _, rfl, below1 _ _, heap_new _ _, by simp [size_madeCells], fun j h => by omega⟩
 case round =>
  obtain ⟨q, cs, hq, rfl, hb, hcs, hcz, hN⟩ := hrel
  have HB := tuck hb
  have HCS := tuck hcs
  have HN := tuck hN
  clear hb hcs hN
  by_cases hlt : q < n
  ·have hlti : ((q : Int) < (n : Int)) := by omega
   have hqi : (0 : Int) ≤ (q : Int) := by omega
   obtain ⟨k0, k1, k2, k3⟩ := stkCells_get qs q (by rw [HLEN.out]; exact hlt)
   obtain ⟨e1, e2, e3⟩ := HPAS.out.get q (hpg q hlt)
   have hix := ixAt_eq p q (hpg q hlt)
   obtain ⟨rfl, hgw⟩ := HGB.out (by intro e; have := HLEN.out; rw [e] at this; simp at this; omega)
   have c0 := (HB.out.cell (p := ⟨gb, q * 4, none⟩) hgw).trans (HCE.out _ _ k0)
   have c1 := (HB.out.cell (p := ⟨gb, q * 4 + 1, none⟩) hgw).trans (HCE.out _ _ k1)
   have c2 := (HB.out.cell (p := ⟨gb, q * 4 + 2, none⟩) hgw).trans (HCE.out _ _ k2)
   have c3 := (HB.out.cell (p := ⟨gb, q * 4 + 3, none⟩) hgw).trans (HCE.out _ _ k3)
   have hgr : gb < wr.heap.size := World.block_lt_of_cell? wr _ c0
   rw [e1] at c0 c1
   rw [e2] at c3
   have HIX : Hid (ixAt p q = ((p[q]'(hpg q hlt)).2 : Int)) := tuck hix
   clear k0 k1 k2 k3 e1 e2 hix
   generalize (entry qs q).2.1 = sx at *
   generalize (p[q]'(hpg q hlt)).1 = T at *
   generalize (p[q]'(hpg q hlt)).2 = i at *
   obtain ⟨ta, tc, rfl⟩ := e3.form
   clear e3
   have hbx := below1 wr (.cells #[.int .i64 T.kind, .int .i64 T.num, .slice ta T.kids.length tc, .int .i64 (i : Int)] 169)
   have hcs2 := (hbx.block _ (block_of_cells HCS.out).1).trans HCS.out
   have hbo := block_of_cells hcs2
   have hbz : w.heap.size < wr.heap.size := (block_of_cells HCS.out).1
   have d0 : (wr.alloc (.cells #[.int .i64 T.kind, .int .i64 T.num, .slice ta T.kids.length tc, .int .i64 (i : Int)] 169)).cell? ⟨w.heap.size, q, none⟩ = some cs[q] := by rw [hbo.2.1 q]; simp [hcz, hlt]
   have df := hbo.2.2 q
   have HB2 := tuck (bAfter HB.out hbx)
   have HCS2 := tuck hcs2
   obtain ⟨zb, db, -⟩ := block_of_cells (heap_new wr (.cells #[.int .i64 T.kind, .int .i64 T.num, .slice ta T.kids.length tc, .int .i64 (i : Int)] 169))
   have b3 : (wr.alloc (.cells #[.int .i64 T.kind, .int .i64 T.num, .slice ta T.kids.length tc, .int .i64 (i : Int)] 169)).cell? ⟨wr.heap.size, 3, none⟩ = some (.int .i64 (i : Int)) := db 3
   clear hbx hcs2 hbo db
   go_wp2_with fail
   go_roundw
   case rel =>
    refine ⟨q + 1, cs.setIfInBounds q (.int .i64 (i : Int)), by omega, by go_num, ?_, ((below1 _ (.cells #[.int .i64 T.kind, .int .i64 T.num, .slice ta T.kids.length tc, .int .i64 (i : Int)] 169)).block _ (by simpa [World.setCell] using hbz)).trans (block_set HCS.out q _), by simp [hcz], fun j hj => ?_⟩
    ·exact bAfter (HB.out.setCell (Nat.le_refl _) _) (below1 _ _)
    ·by_cases hjq : j = q
     ·subst hjq
      rw [HIX.out]
      simp [hcz, hlt]
     ·rw [Array.getElem?_setIfInBounds_ne (by omega)]
      exact HN.out j (by omega)
   case measure => simp [intOf]; omega
  ·obtain rfl : q = n := by omega
   have hge2 : ¬ ((q : Int) < (q : Int)) := by omega
   clear hlt
   have HE := tuck (HPOST.out wr cs HB.out HCS.out hcz HN.out)
   go_wp2_with fail
   exact HE.out
end Go.Proofs.YtpddjebdncaceaaGreat
