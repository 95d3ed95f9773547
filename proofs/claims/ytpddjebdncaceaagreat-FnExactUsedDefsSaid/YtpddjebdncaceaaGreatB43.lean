/-
  DfI.
-/
import Derived.Test.YtpddjebdncaceaaGreatB17
import Derived.Test.YtpddjebdncaceaaGreatB42
namespace Go.Proofs.YtpddjebdncaceaaGreat
open Go.RowKit
set_option linter.unusedVariables false
set_option linter.unusedSimpArgs false
theorem so_set3 {w : World} {g i j k : Nat} {l : List Tm} {v x y z : Value} {F : List Nat} (h : SlOwn w l v F) (hg : g ∉ F) : SlOwn (((w.setCell ⟨g, i, none⟩ x).setCell ⟨g, j, none⟩ y).setCell ⟨g, k, none⟩ z) l v F :=
 ((h.setCell (p := ⟨g, i, none⟩) hg _).setCell (p := ⟨g, j, none⟩) hg _).setCell (p := ⟨g, k, none⟩) hg _
def ToDOPost (w : World) (t u : Tm) (e : Ending) (w' : World) : Prop := ∃ a c a' c' F1 F2, e = .returned (.agg #[.int .i64 t.kind, .int .i64 t.num, .slice a t.kids.length c, .int .i64 u.kind, .int .i64 u.num, .slice a' u.kids.length c']) ∧ SlOwn w' t.kids (.slice a t.kids.length c) F1 ∧ SlOwn w' u.kids (.slice a' u.kids.length c') F2 ∧ (F1 ++ F2).Nodup ∧ (∀ g ∈ F1 ++ F2, w.heap.size ≤ g ∧ g < w'.heap.size) ∧ Below w.heap.size w w'
set_option maxRecDepth 100000 in
set_option maxHeartbeats 1600000 in
theorem toDefO_any (t u : Tm) (w : World) (s s' : Value) (h0 : sizes t.kids ≤ 1048576) (h1 : sizes u.kids ≤ 1048576) (hs : SlIn w 0 t.kids s) (hu : SlIn w 0 u.kids s') : Calls Tryz.prog 35 #[.agg #[.int .i64 t.kind, .int .i64 t.num, s, .int .i64 u.kind, .int .i64 u.num, s']] w (ToDOPost w t u) := by
 obtain ⟨a, c, rfl⟩ := hs.form
 obtain ⟨a', c', rfl⟩ := hu.form
 have HP : Hid (∀ (a : Option Addr) (c : Nat) (a' : Option Addr) (c' : Nat) (F1 F2 : List Nat) (w' : World), SlOwn w' t.kids (.slice a t.kids.length c) F1 → SlOwn w' u.kids (.slice a' u.kids.length c') F2 → (F1 ++ F2).Nodup → (∀ g ∈ F1 ++ F2, w.heap.size ≤ g ∧ g < w'.heap.size) → Below w.heap.size w w' → ToDOPost w t u (.returned (.agg #[.int .i64 t.kind, .int .i64 t.num, .slice a t.kids.length c, .int .i64 u.kind, .int .i64 u.num, .slice a' u.kids.length c'])) w') := tuck fun a c a' c' F1 F2 w' h1 h2 h3 h4 h5 => ⟨a, c, a', c', F1, F2, rfl, h1, h2, h3, h4, h5⟩
 generalize ToDOPost w t u = post at *
 have HTT : Hid (∀ W, SlIn W 0 t.kids (.slice a t.kids.length c) → Calls Tryz.prog 10 #[.agg #[.int .i64 t.kind, .int .i64 t.num, .slice a t.kids.length c]] W (fun e w' => Below W.heap.size W w' ∧ ∃ a c F, e = .returned (.agg #[.int .i64 t.kind, .int .i64 t.num, .slice a t.kids.length c]) ∧ SlOwn w' t.kids (.slice a t.kids.length c) F ∧ F.Nodup ∧ ∀ g ∈ F, W.heap.size ≤ g ∧ g < w'.heap.size)) := tuck fun W h => toO_made t W _ h0 ⟨_, rfl, h⟩
 have HTU : Hid (∀ W, SlIn W 0 u.kids (.slice a' u.kids.length c') → Calls Tryz.prog 10 #[.agg #[.int .i64 u.kind, .int .i64 u.num, .slice a' u.kids.length c']] W (fun e w' => Below W.heap.size W w' ∧ ∃ a c F, e = .returned (.agg #[.int .i64 u.kind, .int .i64 u.num, .slice a u.kids.length c]) ∧ SlOwn w' u.kids (.slice a u.kids.length c) F ∧ F.Nodup ∧ ∀ g ∈ F, W.heap.size ≤ g ∧ g < w'.heap.size)) := tuck fun W h => toO_made u W _ h1 ⟨_, rfl, h⟩
 have HB := tuck (below3 w (.cells #[.int .i64 t.kind, .int .i64 t.num, .slice a t.kids.length c, .int .i64 u.kind, .int .i64 u.num, .slice a' u.kids.length c'] 58) (.cells #[.int .i64 0, .int .i64 0, .slice none 0 0, .int .i64 0, .int .i64 0, .slice none 0 0] 64) (.cells #[.int .i64 0, .int .i64 0, .slice none 0 0, .int .i64 0, .int .i64 0, .slice none 0 0] 64))
 have HD := tuck ((DBox.new 58 w t.kind t.num (.slice a t.kids.length c) u.kind u.num (.slice a' u.kids.length c')).below (below2 _ (.cells #[.int .i64 0, .int .i64 0, .slice none 0 0, .int .i64 0, .int .i64 0, .slice none 0 0] 64) (.cells #[.int .i64 0, .int .i64 0, .slice none 0 0, .int .i64 0, .int .i64 0, .slice none 0 0] 64)))
 have HR := tuck ((dbox_new1 64 w (.cells #[.int .i64 t.kind, .int .i64 t.num, .slice a t.kids.length c, .int .i64 u.kind, .int .i64 u.num, .slice a' u.kids.length c'] 58) 0 0 (.slice none 0 0) 0 0 (.slice none 0 0)).below (below1 _ (.cells #[.int .i64 0, .int .i64 0, .slice none 0 0, .int .i64 0, .int .i64 0, .slice none 0 0] 64)))
 have HO := tuck (dbox_new2 64 w (.cells #[.int .i64 t.kind, .int .i64 t.num, .slice a t.kids.length c, .int .i64 u.kind, .int .i64 u.num, .slice a' u.kids.length c'] 58) (.cells #[.int .i64 0, .int .i64 0, .slice none 0 0, .int .i64 0, .int .i64 0, .slice none 0 0] 64) 0 0 (.slice none 0 0) 0 0 (.slice none 0 0))
 have HS := tuck (hs.below HB.out)
 have HU := tuck hu
 clear hs hu
 go_enter Tryz.func35, Tryz.ntmps35
 go_wp2_with fail
 generalize ((w.alloc (.cells #[.int .i64 t.kind, .int .i64 t.num, .slice a t.kids.length c, .int .i64 u.kind, .int .i64 u.num, .slice a' u.kids.length c'] 58)).alloc (.cells #[.int .i64 0, .int .i64 0, .slice none 0 0, .int .i64 0, .int .i64 0, .slice none 0 0] 64)).alloc (.cells #[.int .i64 0, .int .i64 0, .slice none 0 0, .int .i64 0, .int .i64 0, .slice none 0 0] 64) = W0 at *
 refine (HTT.out _ HS.out).mono ?_
 rintro e w1 ⟨hb1, a1, c1, F1, rfl, hin1, hn1, hF1⟩
 have hz := HO.out.facts.1
 have HI1 := tuck hin1
 have HN1 := tuck hn1
 have HF1 : Hid (∀ g ∈ F1, w.heap.size + 1 + 1 + 1 ≤ g ∧ g < w1.heap.size) := tuck fun g hg => ⟨Nat.le_trans hz (hF1 g hg).1, (hF1 g hg).2⟩
 replace HB := tuck (bAfter HB.out hb1)
 replace HD := tuck (HD.out.below hb1)
 replace HR := tuck (HR.out.below hb1)
 replace HO := tuck (HO.out.below hb1)
 clear hin1 hb1 hz HS HTT hn1 hF1
 obtain ⟨z0, p0, p1, p2, p3, p4, p5, pf⟩ := HD.out.facts
 obtain ⟨z2, q0, q1, q2, q3, q4, q5, qf⟩ := HO.out.facts
 go_wp2_with fail
 clear z0 p0 p1 p2 p3 p4 p5 pf z2 q0 q1 q2 q3 q4 q5 qf
 replace HD := tuck (dfree3 HD.out (q := w.heap.size + 1 + 1) (by omega) 0 1 2 (.int .i64 t.kind) (.int .i64 t.num) (.slice a1 t.kids.length c1))
 replace HR := tuck (dfree3 HR.out (q := w.heap.size + 1 + 1) (by omega) 0 1 2 (.int .i64 t.kind) (.int .i64 t.num) (.slice a1 t.kids.length c1))
 replace HO := tuck (HO.out.set1 (x := t.kind) (y := t.num) (z := .slice a1 t.kids.length c1))
 replace HB := tuck (bSet3 HB.out (show w.heap.size ≤ w.heap.size + 1 + 1 by omega) 0 1 2 (.int .i64 t.kind) (.int .i64 t.num) (.slice a1 t.kids.length c1))
 have hnf : w.heap.size + 1 + 1 ∉ F1 := fun h => by have := (HF1.out _ h).1; omega
 replace HI1 := tuck (((HI1.out.setCell (p := ⟨w.heap.size + 1 + 1, 0, none⟩) hnf (.int .i64 t.kind)).setCell (p := ⟨w.heap.size + 1 + 1, 1, none⟩) hnf (.int .i64 t.num)).setCell (p := ⟨w.heap.size + 1 + 1, 2, none⟩) hnf (.slice a1 t.kids.length c1))
 have hsz := size_set3 w1 (w.heap.size + 1 + 1) 0 1 2 (.int .i64 t.kind) (.int .i64 t.num) (.slice a1 t.kids.length c1)
 rw [← hsz] at HF1
 clear hnf hsz
 generalize ((w1.setCell ⟨w.heap.size + 1 + 1, 0, none⟩ (.int .i64 t.kind)).setCell ⟨w.heap.size + 1 + 1, 1, none⟩ (.int .i64 t.num)).setCell ⟨w.heap.size + 1 + 1, 2, none⟩ (.slice a1 t.kids.length c1) = W1 at *
 refine (HTU.out _ (HU.out.below HB.out)).mono ?_
 rintro e w3 ⟨hb3, a3, c3, F2, rfl, hin3, hn3, hF3⟩
 have hz := HO.out.facts.1
 have HI3 := tuck hin3
 have HN3 := tuck hn3
 have HF3 : Hid (∀ g ∈ F2, W1.heap.size ≤ g ∧ g < w3.heap.size) := tuck hF3
 have HZ := tuck (show w.heap.size + 1 + 1 + 1 ≤ W1.heap.size from hz)
 have HZ3 := tuck hb3.size
 replace HI1 := tuck (HI1.out.below (fun g hg => (HF1.out g hg).2) hb3)
 replace HB := tuck (bAfter HB.out hb3)
 replace HR := tuck (HR.out.below hb3)
 replace HO := tuck (HO.out.below hb3)
 clear hin3 hb3 hz HU HTU HD hn3 hF3
 obtain ⟨z1, p0, p1, p2, p3, p4, p5, pf⟩ := HR.out.facts
 obtain ⟨z2, q0, q1, q2, q3, q4, q5, qf⟩ := HO.out.facts
 go_wp2_with fail
 refine bodyPost_ret (v := .agg #[.int .i64 t.kind, .int .i64 t.num, .slice a1 t.kids.length c1, .int .i64 u.kind, .int .i64 u.num, .slice a3 u.kids.length c3]) (by simp [results, Tryz.results35, go_sem, *]) rfl (HP.out a1 c1 a3 c3 F1 F2 _ ?_ ?_ ?_ ?_ ?_)
 ·have hn : ∀ x, x ≤ w.heap.size + 1 + 1 → x ∉ F1 := fun x hx h => by have := (HF1.out _ h).1; omega
  exact so_set3 (so_set3 (so_set3 HI1.out (hn _ (by omega))) (hn _ (by omega))) (hn _ (by omega))
 ·have hn : ∀ x, x ≤ w.heap.size + 1 + 1 → x ∉ F2 := fun x hx h => by have := (HF3.out _ h).1; have := HZ.out; omega
  exact so_set3 (so_set3 (so_set3 HI3.out (hn _ (by omega))) (hn _ (by omega))) (hn _ (by omega))
 ·refine List.nodup_append.2 ⟨HN1.out, HN3.out, fun a ha b hb e => ?_⟩
  have := (HF1.out a ha).2
  have := (HF3.out b hb).1
  omega
 ·intro g hg
  rw [size_set3, size_set3, size_set3]
  have hz1 := HZ.out
  have hz3 := HZ3.out
  rcases List.mem_append.1 hg with hg | hg
  ·have := HF1.out g hg
   omega
  ·have := HF3.out g hg
   omega
 ·exact bSet3 (bSet3 (bSet3 HB.out (by omega) _ _ _ _ _ _) (by omega) _ _ _ _ _ _) (by omega) _ _ _ _ _ _
def ToDsOPost (w : World) (l : List (Tm × Tm)) (e : Ending) (w' : World) : Prop := Below w.heap.size w w' ∧ ∃ a c F, e = .returned (.slice a l.length c) ∧ DfOwn w' l (.slice a l.length c) F ∧ F.Nodup ∧ ∀ g ∈ F, w.heap.size ≤ g ∧ g < w'.heap.size
set_option maxRecDepth 100000 in
set_option maxHeartbeats 1600000 in
theorem toDefSO_any (l : List (Tm × Tm)) (w : World) (v : Value) (hsz : dsizes l ≤ 1048576) (hin : DfIn w 0 l v) : Calls Tryz.prog 9 #[v] w (ToDsOPost w l) := by
 obtain ⟨a, cap, b, o, rfl, hl, hp, hc⟩ := hin
 have hls := dsizes_len l
 have HP := tuck hp
 have HC := tuck hc
 have HSZ := tuck hsz
 have hlen : l.length ≤ 1048576 := by omega
 clear hp hc hl hls hsz
 obtain ⟨i0, hi, hz0, hz1, hz2⟩ := info_parts info_def
 have hmk : ∀ W : World, (Instr.makeSlice 30 (.int .i64 (l.length : Int)) (.int .i64 (l.length : Int))).run Tryz.prog W = .ok (.slice (some ⟨W.heap.size, 0, none⟩) l.length l.length) (W.alloc (.cells (madeCells #[.int .i64 0, .int .i64 0, .slice none 0 0, .int .i64 0, .int .i64 0, .slice none 0 0] (l.length * 6)) 64)) := fun W => by
  have h := run_make (P := Tryz.prog) W 30 64 i0 _ Tryz.underlying30 hi hz0 .i64 .i64 (l.length : Int) (l.length : Int) (by omega) (Int.le_refl _) (by rw [hz2]; omega) (by omega)
  rw [hz1] at h
  simpa [Value.cells] using h
 clear hi hz0 hz1 hz2
 go_enter Tryz.func9, Tryz.ntmps9
 go_wp2
 clear hmk
 go_loopw [4] (fun i wr => ∃ k : Nat, k ≤ l.length ∧ i = .int .i64 k ∧ Below w.heap.size w wr ∧ ∃ F : List Nat, (∃ cs : Array Value, wr.heap[w.heap.size]? = some (.cells cs 64 (0, 0)) ∧ cs.size = (flat l).length * 3) ∧ RowOwn wr ((flat l).take (2 * k)) w.heap.size 0 F ∧ F.Nodup ∧ ∀ x ∈ F, w.heap.size < x ∧ x < wr.heap.size) (fun i _ => l.length - (intOf i).toNat)
 case atStart =>
  exact ⟨0, Nat.zero_le _, rfl, below1 _ _, [], ⟨_, heap_new _ _, by rw [size_madeCells, flat_length]; omega⟩, by rw [Nat.mul_zero, List.take_zero, RowOwn], List.nodup_nil, fun x h => by cases h⟩
 case round =>
  obtain ⟨k, hk, rfl, hb, F, ⟨cs, hcs, hcz⟩, hro, hnd, hF⟩ := hrel
  by_cases hlt : k < l.length
  ·have hlti : ((k : Int) < (l.length : Int)) := by omega
   obtain ⟨rfl, -, hbw⟩ := HP.out (by omega)
   obtain ⟨s, u, c0, c1, c2, c3, c4, c5, hs, hu⟩ := HC.out k hlt
   have hcc : ∀ j, wr.cell? ⟨b, j, none⟩ = w.cell? ⟨b, j, none⟩ := fun j => hb.cell (p := ⟨b, j, none⟩) hbw
   rw [← hcc] at c0 c1 c2 c3 c4 c5
   have HB := tuck hb
   have HCS := tuck hcs
   have HRO := tuck hro
   have HND := tuck hnd
   have HF := tuck hF
   have hzR := (block_of_cells hcs).1
   have hg1 := dsizes_get hlt
   have hfl := flat_length l
   have HT1 : Hid ((flat l).take (2 * k) ++ [l[k].1] = (flat l).take (2 * k + 1)) := tuck (by rw [← flat_fst l k hlt]; exact (List.take_succ_eq_append_getElem (by omega)).symm)
   have HT2 : Hid ((flat l).take (2 * k + 1) ++ [l[k].2] = (flat l).take (2 * k + 1 + 1)) := tuck (by rw [← flat_snd l k hlt]; exact (List.take_succ_eq_append_getElem (by omega)).symm)
   have HCL := tuck (toDefO_any l[k].1 l[k].2 wr s u (by have := HSZ.out; omega) (by have := HSZ.out; omega) (hs.below hb) (hu.below hb))
   clear hb hcs hro hnd hF hs hu hcc hg1
   generalize l[k] = x at *
   obtain ⟨x1, x2⟩ := x
   simp only at HCL HT1 HT2 c0 c1 c3 c4
   go_wp2_with fail
   refine HCL.out.mono ?_
   rintro e w' ⟨a1, k1, a2, k2, F1, F2, rfl, hi1, hi2, hn2, hF2, hb'⟩
   have HC3 := tuck ((hb'.block _ hzR).trans HCS.out)
   have hg := fun i (hi : i < cs.size) => ((block_of_cells HC3.out).2.1 i).trans (Array.getElem?_eq_getElem hi)
   have d0 := hg (k * 6) (by omega)
   have d1 := hg (k * 6 + 1) (by omega)
   have d2 := hg (k * 6 + 2) (by omega)
   have d3 := hg (k * 6 + 3) (by omega)
   have d4 := hg (k * 6 + 4) (by omega)
   have d5 := hg (k * 6 + 5) (by omega)
   have df := (block_of_cells HC3.out).2.2
   have HI1 := tuck hi1
   have HI2 := tuck hi2
   have HN2 := tuck hn2
   have HF2 := tuck hF2
   have HB' := tuck hb'
   clear hi1 hi2 hb' hn2 hF2 c0 c1 c2 c3 c4 c5 hg
   go_wp2_with fail
   go_roundw
   case rel =>
    have hRF : w.heap.size ∉ F := fun h => by have := (HF.out _ h).1; omega
    have hRF1 : w.heap.size ∉ F1 := fun h => by have := (HF2.out _ (List.mem_append.2 (Or.inl h))).1; omega
    have hRF2 : w.heap.size ∉ F2 := fun h => by have := (HF2.out _ (List.mem_append.2 (Or.inr h))).1; omega
    have hro3 : RowOwn w' ((flat l).take (2 * k)) w.heap.size 0 F := HRO.out.keep (fun i _ => HB'.out.cell (p := ⟨w.heap.size, 0 + i, none⟩) hzR) (fun y hy => SameAt.of_block (HB'.out.block y (HF.out y hy).2))
    obtain ⟨⟨cs1, hp1, hz1⟩, hp2⟩ := row_put HC3.out (show 2 * k < (flat l).length by omega) hcz hro3 HI1.out hRF hRF1
    rw [HT1.out] at hp2
    rw [show 2 * k * 3 = k * 6 by omega] at hp1 hp2
    obtain ⟨hq1, hq2⟩ := row_put (x := x2) hp1 (show 2 * k + 1 < (flat l).length by omega) hz1 hp2 (so_set3 HI2.out hRF2) (fun h => (List.mem_append.1 h).elim hRF hRF1) hRF2
    rw [HT2.out] at hq2
    rw [show (2 * k + 1) * 3 = k * 6 + 3 by omega] at hq1 hq2
    refine ⟨k + 1, by omega, by go_num, ?_, (F ++ F1) ++ F2, hq1, by rw [show 2 * (k + 1) = 2 * k + 1 + 1 by omega]; exact hq2, ?_, fun y hy => ?_⟩
    ·exact bSet3 (bSet3 (bAfter HB.out HB'.out) (Nat.le_refl _) _ _ _ _ _ _) (Nat.le_refl _) _ _ _ _ _ _
    ·rw [List.append_assoc]
     refine List.nodup_append.2 ⟨HND.out, HN2.out, fun a ha b hb e => ?_⟩
     have := (HF.out a ha).2
     have := (HF2.out b hb).1
     omega
    ·rw [size_set3, size_set3]
     have hz := HB'.out.size
     rw [List.append_assoc] at hy
     rcases List.mem_append.1 hy with hy | hy
     ·have := HF.out y hy
      omega
     ·have := HF2.out y hy
      omega
   case measure => simp [intOf]; omega
  ·have hge2 : ¬ ((k : Int) < (l.length : Int)) := by omega
   have HB := tuck hb
   have HCS := tuck hcs
   have HRO := tuck hro
   have HND := tuck hnd
   have HF := tuck hF
   clear hb hcs hro hnd hF
   go_wp2
   go_ret
   have e : k = l.length := by omega
   subst e
   have hro := HRO.out
   rw [List.take_of_length_le (by rw [flat_length]; omega)] at hro
   have hzR := (block_of_cells HCS.out).1
   refine ⟨HB.out, _, _, w.heap.size :: F, rfl, ⟨l.length, w.heap.size, F, rfl, by unfold maxLen; omega, rfl, (block_of_cells HCS.out).2.2, hro⟩, List.nodup_cons.2 ⟨fun h => by have := (HF.out _ h).1; omega, HND.out⟩, fun x hx => ?_⟩
   rcases List.mem_cons.1 hx with rfl | hx
   ·exact ⟨Nat.le_refl _, hzR⟩
   ·have := HF.out x hx
    exact ⟨by omega, this.2⟩
end Go.Proofs.YtpddjebdncaceaaGreat
