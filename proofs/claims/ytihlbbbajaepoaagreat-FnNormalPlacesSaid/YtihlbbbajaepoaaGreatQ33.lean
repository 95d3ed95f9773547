/-
  PlS, PlU.
-/
import Derived.Test.YtihlbbbajaepoaaGreatQ08
import Derived.Test.YtihlbbbajaepoaaGreatQ12
import Derived.Test.YtihlbbbajaepoaaGreatQ17
import Derived.Test.YtihlbbbajaepoaaGreatQ20
import Derived.Test.YtihlbbbajaepoaaGreatQ26
import Derived.Test.YtihlbbbajaepoaaGreatQ31
import Derived.Deep.DeepCutAuto
import Derived.Lib.AppendZeros
namespace Go.Proofs.YtihlbbbajaepoaaGreat
open Go.RowKit
def ixAt (p : List (Tm × Nat)) : Int → Int := fun j => (((p[j.toNat]?).map (·.2)).getD 0 : Nat)
theorem ixAt_eq (p : List (Tm × Nat)) (j : Nat) (h : j < p.length) : ixAt p (j : Int) = ((p[j].2 : Nat) : Int) := by
 unfold ixAt
 rw [Int.toNat_natCast, List.getElem?_eq_getElem h]
 rfl
set_option maxRecDepth 100000 in
set_option maxHeartbeats 1600000 in
theorem place_any {u w : World} {g : Nat} {t : Tm} {p : List (Tm × Nat)} {M : Nat → Prop} (hp : p.length ≤ 1000) (h : CurAt u g t p M w) :
  Calls Tryz.prog 123 #[.pointer (some ⟨g, 0, none⟩)] w (ToInts w (ixAt p) p.length) := by
 obtain ⟨hu, s, qs, hs, hpas, hst⟩ := h
 obtain ⟨sa, gb, cap, hcv, hgb, hcells⟩ := hst.view
 have hlen := hpas.length
 have zg : g < w.heap.size := World.block_lt_of_cell? w _ hcv
 rw [hlen] at hcv
 have HCE := tuck hcells
 have HGB := tuck hgb
 have HPAS := tuck hpas
 have HLEN := tuck hlen
 have HPOST : Hid (∀ w' cs, Below w.heap.size w w' → w'.heap[w.heap.size]? = some (.cells cs 3 (0, 0)) → cs.size = p.length → (∀ j : Nat, j < p.length → cs[j]? = some (.int .i64 (ixAt p j))) → ToInts w (ixAt p) p.length (.returned (.slice (some ⟨w.heap.size, 0, none⟩) p.length p.length)) w') := tuck fun w' cs h1 h2 h3 h4 => ⟨h1, _, rfl, rfl, cs, h2, h3, h4⟩
 generalize ToInts w (ixAt p) p.length = post at *
 obtain ⟨n, hn⟩ : ∃ n, n = p.length := ⟨_, rfl⟩
 rw [← hn] at hcv HPOST HLEN hp
 have hpg : ∀ q (h : q < n), q < p.length := fun q h => by omega
 have HNN := tuck hn
 clear hst hcells hgb hs hpas hlen hu hn
 obtain ⟨i0, hi, hz0, hz1, hz2⟩ := info_parts info_int
 have hmk : ∀ W : World, (Instr.makeSlice 88 (.int .i64 (n : Int)) (.int .i64 (n : Int))).run Tryz.prog W = .ok (.slice (some ⟨W.heap.size, 0, none⟩) n n) (W.alloc (.cells (madeCells #[.int .i64 0] (n * 1)) 3)) := fun W => by
  have h := run_make (P := Tryz.prog) W 88 3 i0 _ Tryz.underlying88 hi hz0 .i64 .i64 (n : Int) (n : Int) (by omega) (Int.le_refl _) (by rw [hz2]; omega) (by omega)
  rw [hz1] at h
  simpa [Value.cells] using h
 clear hi hz0 hz1 hz2
 go_enter Tryz.func123, Tryz.ntmps123
 go_wp2
 clear hmk
 go_loopw [17] (fun i wr => ∃ (q : Nat) (cs : Array Value), q ≤ n ∧ i = .int .i64 q ∧ Below w.heap.size w wr ∧ wr.heap[w.heap.size]? = some (.cells cs 3 (0, 0)) ∧ cs.size = n ∧ ∀ j : Nat, j < q → cs[j]? = some (.int .i64 (ixAt p j))) (fun i _ => n - (intOf i).toNat)
 case atStart => exact ⟨0, _, Nat.zero_le _, rfl, below1 _ _, heap_new _ _, by simp [size_madeCells], fun j h => by omega⟩
 case round =>
  obtain ⟨q, cs, hq, rfl, hb, hcs, hcz, hN⟩ := hrel
  have HB := tuck hb
  have HCS := tuck hcs
  have HN := tuck hN
  clear hb hcs hN
  by_cases hlt : q < n
  ·have hlti : ((q : Int) < (n : Int)) := by omega
   have hqi : (0 : Int) ≤ (q : Int) := by omega
   obtain ⟨k0, k1, k2, k3⟩ := stkCells_get qs q (by rw [HLEN.out]; exact hlt)
   obtain ⟨e1, e2, e3⟩ := HPAS.out.get q (hpg q hlt)
   have hix := ixAt_eq p q (hpg q hlt)
   obtain ⟨rfl, hgw⟩ := HGB.out (by intro e; have := HLEN.out; rw [e] at this; simp at this; omega)
   have c0 := (HB.out.cell (p := ⟨gb, q * 4, none⟩) hgw).trans (HCE.out _ _ k0)
   have c1 := (HB.out.cell (p := ⟨gb, q * 4 + 1, none⟩) hgw).trans (HCE.out _ _ k1)
   have c2 := (HB.out.cell (p := ⟨gb, q * 4 + 2, none⟩) hgw).trans (HCE.out _ _ k2)
   have c3 := (HB.out.cell (p := ⟨gb, q * 4 + 3, none⟩) hgw).trans (HCE.out _ _ k3)
   have hgr : gb < wr.heap.size := World.block_lt_of_cell? wr _ c0
   rw [e1] at c0 c1
   rw [e2] at c3
   have HIX : Hid (ixAt p q = ((p[q]'(hpg q hlt)).2 : Int)) := tuck hix
   clear k0 k1 k2 k3 e1 e2 hix
   generalize (entry qs q).2.1 = sx at *
   generalize (p[q]'(hpg q hlt)).1 = T at *
   generalize (p[q]'(hpg q hlt)).2 = i at *
   obtain ⟨ta, tc, rfl⟩ := e3.form
   clear e3
   have hbx := below1 wr (.cells #[.int .i64 T.kind, .int .i64 T.num, .slice ta T.kids.length tc, .int .i64 (i : Int)] 152)
   have hcs2 := (hbx.block _ (block_of_cells HCS.out).1).trans HCS.out
   have hbo := block_of_cells hcs2
   have hbz : w.heap.size < wr.heap.size := (block_of_cells HCS.out).1
   have d0 : (wr.alloc (.cells #[.int .i64 T.kind, .int .i64 T.num, .slice ta T.kids.length tc, .int .i64 (i : Int)] 152)).cell? ⟨w.heap.size, q, none⟩ = some cs[q] := by rw [hbo.2.1 q]; simp [hcz, hlt]
   have df := hbo.2.2 q
   have HB2 := tuck (bAfter HB.out hbx)
   have HCS2 := tuck hcs2
   obtain ⟨zb, db, -⟩ := block_of_cells (heap_new wr (.cells #[.int .i64 T.kind, .int .i64 T.num, .slice ta T.kids.length tc, .int .i64 (i : Int)] 152))
   have b3 : (wr.alloc (.cells #[.int .i64 T.kind, .int .i64 T.num, .slice ta T.kids.length tc, .int .i64 (i : Int)] 152)).cell? ⟨wr.heap.size, 3, none⟩ = some (.int .i64 (i : Int)) := db 3
   clear hbx hcs2 hbo db
   go_wp2_with fail
   go_roundw
   case rel =>
    refine ⟨q + 1, cs.setIfInBounds q (.int .i64 (i : Int)), by omega, by go_num, ?_, ((below1 _ (.cells #[.int .i64 T.kind, .int .i64 T.num, .slice ta T.kids.length tc, .int .i64 (i : Int)] 152)).block _ (by simpa [World.setCell] using hbz)).trans (block_set HCS.out q _), by simp [hcz], fun j hj => ?_⟩
    ·exact bAfter (HB.out.setCell (Nat.le_refl _) _) (below1 _ _)
    ·by_cases hjq : j = q
     ·subst hjq
      rw [HIX.out]
      simp [hcz, hlt]
     ·rw [Array.getElem?_setIfInBounds_ne (by omega)]
      exact HN.out j (by omega)
   case measure => simp [intOf]; omega
  ·obtain rfl : q = n := by omega
   have hge2 : ¬ ((q : Int) < (q : Int)) := by omega
   clear hlt
   have HE := tuck (HPOST.out wr cs HB.out HCS.out hcz HN.out)
   go_wp2_with fail
   exact HE.out
end Go.Proofs.YtihlbbbajaepoaaGreat
namespace Go.Proofs.YtihlbbbajaepoaaGreat
open Go.RowKit
def plcOf (rd : Bool) (L : List (List (Tm × Nat) × Tm)) : List ((Int → Int) × Nat) := (L.filter fun y => !rd || decide (y.2.redex ≠ 0)).map fun y => (ixAt y.1, y.1.length)
theorem plcOf_app (rd : Bool) (A B : List (List (Tm × Nat) × Tm)) : plcOf rd (A ++ B) = plcOf rd A ++ plcOf rd B := by simp [plcOf]
theorem ixAt_snoc (p : List (Tm × Nat)) (t : Tm) (q : Nat) (j : Nat) (h : j < p.length + 1) : ixAt (p ++ [(t, q)]) (j : Int) = if j < p.length then ixAt p (j : Int) else (q : Int) := by
 rw [ixAt_eq _ _ (by simp; omega)]
 by_cases hj : j < p.length
 ·rw [if_pos hj, ixAt_eq _ _ hj, List.getElem_append_left hj]
 ·have e : j = p.length := by omega
  subst e
  rw [if_neg hj, List.getElem_append_right (Nat.le_refl _)]
  simp
theorem grown_two {A B C : World} {r r' : Option Nat} (h : A.grownBy B r) (k : B.grownBy C r') (hr : r' = r ∨ ∃ g, r' = some g ∧ A.heap.size ≤ g) : A.grownBy C r :=
 ⟨k.os.trans h.os, k.tape.trans h.tape, k.output.trans h.output, Nat.le_trans h.size k.size, fun i hi hn => (k.block i (Nat.lt_of_lt_of_le hi h.size) (fun e => by
  rcases hr with hr | ⟨g, hr, hg⟩
  ·exact hn (hr ▸ e)
  ·rw [hr] at e
   injection e with e
   omega)).trans (h.block i hi hn)⟩
theorem grown_below {A B C : World} {r : Option Nat} (h : Below A.heap.size A B) (k : B.grownBy C r) : A.grownBy C r :=
 ⟨k.os.trans h.os, k.tape.trans h.tape, k.output.trans h.output, Nat.le_trans h.size k.size, fun i hi hn => (k.block i (Nat.lt_of_lt_of_le hi h.size) hn).trans (h.block i hi)⟩
def PlPost (base : Nat) (R : List ((Int → Int) × Nat)) (r : Option Nat) (w : World) (e : Ending) (w' : World) : Prop :=
 w.grownBy w' r ∧ ∃ v, e = .returned v ∧ RowP base R v w' ∧ (v.ownBlock = r ∨ ∃ g, v.ownBlock = some g ∧ w.heap.size ≤ g)
end Go.Proofs.YtihlbbbajaepoaaGreat
