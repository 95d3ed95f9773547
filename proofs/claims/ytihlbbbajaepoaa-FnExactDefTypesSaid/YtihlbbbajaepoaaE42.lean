/-
  DfK.
-/
import Derived.Test.YtihlbbbajaepoaaE38
import Derived.Test.YtihlbbbajaepoaaE40
import Derived.Test.YtihlbbbajaepoaaE41
namespace Go.Proofs.Ytihlbbbajaepoaa
open Go.RowKit
set_option maxRecDepth 100000 in
set_option maxHeartbeats 2000000 in
theorem defTypesI_any (l : List (Tm × Tm)) (w : World) (v : Value) (hin : DfIn w 0 l v) : Calls Try.prog 25 #[v] w (CvPost w (orNil (DefsOk l) (l.map (·.1))) (tr (DefsOk l))) := by
 have HIN := tuck hin
 obtain ⟨a, cap, rfl⟩ := hin.form
 by_cases hn : DefsOk l
 rotate_left
 ·have h0 : orNil (DefsOk l) (l.map (·.1)) = [] := by unfold orNil; rw [if_neg hn]
  have HV : Hid (∀ W, DfIn W 0 l (.slice a l.length cap) → Calls Try.prog 22 #[.slice a l.length cap] W (BoolPost W false)) := tuck fun W h => by have h2 := defsValidI_any l W _ h; rwa [tr_not hn] at h2
  rw [h0, tr_not hn]
  have HP : Hid (∀ W, Below w.heap.size w W → CvPost w [] false (.returned (.tuple #[.slice none 0 0, .bool false])) W) := tuck fun W hb => ⟨hb, _, 0, [], rfl, SlOwn.nil _ _ _, List.nodup_nil, fun g h => by cases h⟩
  generalize CvPost w [] false = post at *
  clear hn h0 hin
  go_enter Try.func25, Try.ntmps25
  go_wp2_with fail
  refine (HV.out _ HIN.out).mono ?_
  rintro e w1 ⟨rfl, hb⟩
  have HB := tuck hb
  clear hb
  go_wp2_with fail
  exact HP.out _ HB.out
 have h0 : orNil (DefsOk l) (l.map (·.1)) = l.map (·.1) := by unfold orNil; rw [if_pos hn]
 have HV : Hid (∀ W, DfIn W 0 l (.slice a l.length cap) → Calls Try.prog 22 #[.slice a l.length cap] W (BoolPost W true)) := tuck fun W h => by have h2 := defsValidI_any l W _ h; rwa [tr_of hn] at h2
 rw [h0, tr_of hn]
 have hm8 : l.length ≤ 8 := hn.1
 have HVL := tuck hn.valid
 obtain ⟨ts, hts⟩ : ∃ ts, ts = l.map (·.1) := ⟨_, rfl⟩
 rw [← hts]
 have hll : ts.length = l.length := by rw [hts, List.length_map]
 have HTG : Hid (∀ q (h : q < l.length) (h2 : q < ts.length), ts[q] = l[q].1) := tuck fun q h h2 => by subst hts; rw [List.getElem_map]
 have HLL := tuck hll
 have HSZ : Hid (∀ x ∈ ts, sizes x.kids ≤ 1000000) := tuck fun x hx => by
  obtain ⟨q, hq, rfl⟩ := List.mem_iff_getElem.1 hx
  have hv := (hn.valid q (by omega)).1
  rw [HTG.out q (by omega) hq]
  have := (valid_bounds hv).1
  omega
 have HP : Hid (∀ W e W', Below w.heap.size w W → TlMade W ts e W' → ∃ va vc, e = .returned (.slice va l.length vc) ∧ CvPost w ts true (.returned (.tuple #[.slice va l.length vc, .bool true])) W') := tuck fun W e W' hb ⟨hb2, va, vc, F, he, hs, hnd, hF⟩ => ⟨va, vc, by rw [he, hll], bAfter hb hb2, va, vc, F, by rw [hll], hs, hnd, fun g hg => ⟨Nat.le_trans hb.size (hF g hg).1, (hF g hg).2⟩⟩
 generalize CvPost w ts true = post at *
 obtain ⟨a', cap', b, o, he, -, hp, hc⟩ := hin
 simp only [Value.slice.injEq, true_and] at he
 obtain ⟨rfl, rfl⟩ := he
 have HPP := tuck hp
 have HC := tuck hc
 clear hn h0 hp hc hll hts
 obtain ⟨i0, hi, hz0, hz1', hz2⟩ := info_parts info_term'
 have hmk : ∀ W : World, (Instr.makeSlice 74 (.int .i64 (l.length : Int)) (.int .i64 (l.length : Int))).run Try.prog W = .ok (.slice (some ⟨W.heap.size, 0, none⟩) l.length l.length) (W.alloc (.cells (madeCells #[.int .i64 0, .int .i64 0, .slice none 0 0] (l.length * 3)) 30)) := fun W => by
  have h := run_make (P := Try.prog) W 74 30 i0 _ Try.underlying74 hi hz0 .i64 .i64 (l.length : Int) (l.length : Int) (by omega) (Int.le_refl _) (by rw [hz2]; omega) (by omega)
  rw [hz1'] at h
  simpa [Value.cells] using h
 clear hi hz0 hz1' hz2
 go_enter Try.func25, Try.ntmps25
 go_wp2_with fail
 refine (HV.out _ HIN.out).mono ?_
 rintro e w1 ⟨rfl, hb⟩
 have HB1 := tuck (bAfter hb (below1 w1 (.cells (madeCells #[.int .i64 0, .int .i64 0, .slice none 0 0] (l.length * 3)) 30)))
 have HZ := tuck hb.size
 clear hb
 have HR2 := tuck (heap_new w1 (.cells (madeCells #[.int .i64 0, .int .i64 0, .slice none 0 0] (l.length * 3)) 30))
 go_wp2_with fail
 generalize w1.alloc (.cells (madeCells #[.int .i64 0, .int .i64 0, .slice none 0 0] (l.length * 3)) 30) = W2 at *
 clear hmk
 go_loopw [15] (fun i wr => ∃ (q : Nat), q ≤ l.length ∧ i = .int .i64 q ∧ Below w.heap.size w wr ∧
   ∃ cs : Array Value, wr.heap[w1.heap.size]? = some (.cells cs 30 (0, 0)) ∧ cs.size = l.length * 3 ∧ ∀ j (hj : j < l.length), j < q → ∃ s, cs[j * 3]? = some (.int .i64 l[j].1.kind) ∧ cs[j * 3 + 1]? = some (.int .i64 l[j].1.num) ∧ cs[j * 3 + 2]? = some s ∧ SlIn w 0 l[j].1.kids s) (fun i _ => l.length - (intOf i).toNat)
 case atStart => exact ⟨0, Nat.zero_le _, rfl, HB1.out, _, HR2.out, size_madeCells _ _, fun j _ h => absurd h (Nat.not_lt_zero _)⟩
 case round =>
  obtain ⟨q, hq, rfl, hb, cs, hcs, hcz, hall⟩ := hrel
  have HB := tuck hb
  have HCS := tuck hcs
  have HALL := tuck hall
  clear hb hcs hall
  by_cases hlt : q < l.length
  ·have hlti : ((q : Int) < (l.length : Int)) := by omega
   have hqi : (0 : Int) ≤ (q : Int) := by omega
   obtain ⟨rfl, -, hbw⟩ := HPP.out (by omega)
   obtain ⟨s, u, c0, c1, c2, c3, c4, c5, hs, hu⟩ := HC.out q hlt
   obtain ⟨sa, sc, rfl⟩ := hs.form
   obtain ⟨ua, uc, rfl⟩ := hu.form
   have hcc : ∀ j, wr.cell? ⟨b, j, none⟩ = w.cell? ⟨b, j, none⟩ := fun j => HB.out.cell (p := ⟨b, j, none⟩) hbw
   rw [← hcc] at c0 c1 c2 c3 c4 c5
   have HS := tuck hs
   obtain ⟨D, hD⟩ : ∃ D : Obj, D = .cells #[.int .i64 l[q].1.kind, .int .i64 l[q].1.num, .slice sa l[q].1.kids.length sc, .int .i64 l[q].2.kind, .int .i64 l[q].2.num, .slice ua l[q].2.kids.length uc] 67 := ⟨_, rfl⟩
   have hbx := below1 wr D
   have HBX := tuck hbx
   have hcs2 := (hbx.block _ (block_of_cells HCS.out).1).trans HCS.out
   have HCS2 := tuck hcs2
   have hg := fun i (hi : i < cs.size) => ((block_of_cells hcs2).2.1 i).trans (Array.getElem?_eq_getElem hi)
   have d0 := hg (q * 3) (by omega)
   have d1 := hg (q * 3 + 1) (by omega)
   have d2 := hg (q * 3 + 2) (by omega)
   have df := (block_of_cells hcs2).2.2
   have hzr := (block_of_cells hcs2).1
   have HNEW := DBox.new 67 wr l[q].1.kind l[q].1.num (.slice sa l[q].1.kids.length sc) l[q].2.kind l[q].2.num (.slice ua l[q].2.kids.length uc)
   rw [← hD] at HNEW
   obtain ⟨z1, p0, p1, p2, p3, p4, p5, pf⟩ := HNEW.facts
   clear hs hu hcc hbx hcs2 hg HNEW
   go_upto_region 7 with fail
   rw [← hD]
   clear hD c0 c1 c2 c3 c4 c5
   go_wp2_with fail
   go_roundw
   case rel =>
    refine ⟨q + 1, by omega, by go_num, ?_, _, block_set (block_set (block_set HCS2.out _ _) _ _) _ _, by simp [hcz], fun j hj hjq => ?_⟩
    ·exact bSet3 (bAfter HB.out HBX.out) HZ.out _ _ _ _ _ _
    ·by_cases e : j = q
     ·subst e
      refine ⟨_, ?_, ?_, ?_, HS.out⟩ <;> (simp [Array.getElem?_setIfInBounds, hcz]; try omega)
     ·obtain ⟨s', k0, k1, k2, k3⟩ := HALL.out j hj (by omega)
      refine ⟨s', ?_, ?_, ?_, k3⟩
      ·rw [Array.getElem?_setIfInBounds_ne (by omega), Array.getElem?_setIfInBounds_ne (by omega), Array.getElem?_setIfInBounds_ne (by omega)]
       exact k0
      ·rw [Array.getElem?_setIfInBounds_ne (by omega), Array.getElem?_setIfInBounds_ne (by omega), Array.getElem?_setIfInBounds_ne (by omega)]
       exact k1
      ·rw [Array.getElem?_setIfInBounds_ne (by omega), Array.getElem?_setIfInBounds_ne (by omega), Array.getElem?_setIfInBounds_ne (by omega)]
       exact k2
   case measure => simp [intOf]; omega
  ·have hge2 : ¬ ((q : Int) < (l.length : Int)) := by omega
   have e : q = l.length := by omega
   have HSL := tuck (show SlIn wr 0 ts (.slice (some ⟨w1.heap.size, 0, none⟩) l.length l.length) from ⟨_, _, w1.heap.size, 0, by rw [HLL.out], by rw [HLL.out]; unfold maxLen; omega, fun _ => ⟨rfl, Nat.zero_le _⟩, RowAt.of_get fun j hj => by
    have hjl : j < l.length := by have := HLL.out; omega
    obtain ⟨s, k0, k1, k2, k3⟩ := HALL.out j hjl (by omega)
    obtain ⟨b1, b2, b3⟩ := block_of_cells HCS.out
    rw [Nat.zero_add, HTG.out j hjl hj]
    exact TmAt_iff.2 ⟨s, (b2 _).trans k0, (b2 _).trans k1, (b2 _).trans k2, k3.below HB.out⟩⟩)
   have HCLN := tuck (cloneL_any ts HSZ.out (by have := HLL.out; omega) wr _ HSL.out)
   clear e
   go_wp2_with fail
   refine HCLN.out.mono ?_
   rintro e w5 hm
   obtain ⟨va, vc, rfl, hfin⟩ := HP.out _ _ _ HB.out hm
   have HFIN := tuck hfin
   clear hm hfin
   go_wp2_with fail
   exact HFIN.out
end Go.Proofs.Ytihlbbbajaepoaa
