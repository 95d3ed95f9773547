/-
  Clone.
-/
import Derived.Test.YtlbikgnanabjgaaGreatQ12
import Derived.Test.YtlbikgnanabjgaaGreatQ17
namespace Go.Proofs.YtlbikgnanabjgaaGreat
open Go.RowKit
set_option maxRecDepth 100000 in
theorem cloneI_any : ∀ (l : List Tm) (k n : Int) (w : World) (v : Value), sizes l ≤ 1000000 → SlIn w 0 l v →
  Calls Tryz.prog 15 #[.agg #[.int .i64 k, .int .i64 n, v]] w (MadePost w (Tm.mk k n l)) := by
 intro l
 induction l using Tm.ind with
 | h l ih =>
 intro k n w v hsz hin
 obtain ⟨a, cap, bb, o, rfl, hl, hp, hc⟩ := hin.open
 clear hin
 have HPOST : Hid (∀ w' s F, Below w.heap.size w w' → SlOwn w' l s F → F.Nodup → (∀ g ∈ F, w.heap.size ≤ g ∧ g < w'.heap.size) → MadePost w (Tm.mk k n l) (.returned (.agg #[.int .i64 k, .int .i64 n, s])) w') := fun w' s F a1 a2 a3 a4 =>
  ⟨a1, _, rfl, s, F, rfl, a2, a3, a4⟩
 generalize MadePost w (Tm.mk k n l) = post at *
 have hll := length_le_sizes l
 have hl4 : l.length ≤ 1000000 := by omega
 have HI := tuck ih
 have HP := tuck hp
 have HC := tuck hc
 have HSZ := tuck hsz
 clear ih hp hc hsz hll
 by_cases hl0 : l.length = 0
 ·have hl' : l = [] := List.length_eq_zero_iff.1 hl0
  subst hl'
  go_enter Tryz.func15, Tryz.ntmps15
  go_wp2_with fail
  refine bodyPost_ret (v := .agg #[.int .i64 k, .int .i64 n, .slice none 0 0]) (by simp [results, Tryz.results15, go_sem]) rfl (HPOST.out _ _ [] ?_ (SlOwn.nil _ _ _) List.nodup_nil (fun g h => by cases h))
  exact below3 _ _ _ _
 have hpos : 0 < l.length := by omega
 have hposi : (0 : Int) < (l.length : Int) := by omega
 obtain ⟨i0, hi, hz0, hz1', hz2⟩ := info_parts info_term'
 have hmk : ∀ W : World, (Instr.makeSlice 23 (.int .i64 (l.length : Int)) (.int .i64 (l.length : Int))).run Tryz.prog W = .ok (.slice (some ⟨W.heap.size, 0, none⟩) l.length l.length) (W.alloc (.cells (madeCells #[.int .i64 0, .int .i64 0, .slice none 0 0] (l.length * 3)) 25)) := fun W => by
  have h := run_make (P := Tryz.prog) W 23 25 i0 _ Tryz.underlying23 hi hz0 .i64 .i64 (l.length : Int) (l.length : Int) (by omega) (Int.le_refl _) (by rw [hz2]; omega) (by omega)
  rw [hz1'] at h
  simpa [Value.cells] using h
 clear hi hz0 hz1' hz2
 have HB2 := tuck ((below3 w (.cells #[.int .i64 k, .int .i64 n, .slice a l.length cap] 25) (.cells #[.int .i64 0, .int .i64 0, .slice none 0 0] 25) (.cells #[.int .i64 k, .int .i64 n, (.slice (some ⟨w.heap.size + 1 + 1 + 1, 0, none⟩) l.length l.length)] 25)).alloc (by simp; omega) (.cells (madeCells #[.int .i64 0, .int .i64 0, .slice none 0 0] (l.length * 3)) 25))
 have HT2 := tuck ((((VarAt.new w k n (.slice a l.length cap)).below (below1 _ (.cells #[.int .i64 0, .int .i64 0, .slice none 0 0] 25))).below (below1 _ (.cells #[.int .i64 k, .int .i64 n, (.slice (some ⟨w.heap.size + 1 + 1 + 1, 0, none⟩) l.length l.length)] 25))).below (below1 _ (.cells (madeCells #[.int .i64 0, .int .i64 0, .slice none 0 0] (l.length * 3)) 25)))
 have HC2 : Hid (VarAt (w.heap.size + 1 + 1) k n (.slice (some ⟨w.heap.size + 1 + 1 + 1, 0, none⟩) l.length l.length) ((((w.alloc (.cells #[.int .i64 k, .int .i64 n, .slice a l.length cap] 25)).alloc (.cells #[.int .i64 0, .int .i64 0, .slice none 0 0] 25)).alloc (.cells #[.int .i64 k, .int .i64 n, (.slice (some ⟨w.heap.size + 1 + 1 + 1, 0, none⟩) l.length l.length)] 25)).alloc (.cells (madeCells #[.int .i64 0, .int .i64 0, .slice none 0 0] (l.length * 3)) 25))) := tuck (by
  have := (var_new2 w (.cells #[.int .i64 k, .int .i64 n, .slice a l.length cap] 25) (.cells #[.int .i64 0, .int .i64 0, .slice none 0 0] 25) k n (.slice (some ⟨w.heap.size + 1 + 1 + 1, 0, none⟩) l.length l.length)).below (below1 _ (.cells (madeCells #[.int .i64 0, .int .i64 0, .slice none 0 0] (l.length * 3)) 25))
  exact this)
 have HZ2 : Hid (VarAt (w.heap.size + 1) 0 0 (.slice none 0 0) ((((w.alloc (.cells #[.int .i64 k, .int .i64 n, .slice a l.length cap] 25)).alloc (.cells #[.int .i64 0, .int .i64 0, .slice none 0 0] 25)).alloc (.cells #[.int .i64 k, .int .i64 n, (.slice (some ⟨w.heap.size + 1 + 1 + 1, 0, none⟩) l.length l.length)] 25)).alloc (.cells (madeCells #[.int .i64 0, .int .i64 0, .slice none 0 0] (l.length * 3)) 25))) := tuck (by
  have := ((var_new1 w (.cells #[.int .i64 k, .int .i64 n, .slice a l.length cap] 25) 0 0 (.slice none 0 0)).below (below1 _ (.cells #[.int .i64 k, .int .i64 n, (.slice (some ⟨w.heap.size + 1 + 1 + 1, 0, none⟩) l.length l.length)] 25))).below (below1 _ (.cells (madeCells #[.int .i64 0, .int .i64 0, .slice none 0 0] (l.length * 3)) 25))
  exact this)
 have HR2 : Hid (((((w.alloc (.cells #[.int .i64 k, .int .i64 n, .slice a l.length cap] 25)).alloc (.cells #[.int .i64 0, .int .i64 0, .slice none 0 0] 25)).alloc (.cells #[.int .i64 k, .int .i64 n, (.slice (some ⟨w.heap.size + 1 + 1 + 1, 0, none⟩) l.length l.length)] 25)).alloc (.cells (madeCells #[.int .i64 0, .int .i64 0, .slice none 0 0] (l.length * 3)) 25)).heap[w.heap.size + 1 + 1 + 1]? = some (.cells (madeCells #[.int .i64 0, .int .i64 0, .slice none 0 0] (l.length * 3)) 25)) := tuck (by
  have := heap_new (((w.alloc (.cells #[.int .i64 k, .int .i64 n, .slice a l.length cap] 25)).alloc (.cells #[.int .i64 0, .int .i64 0, .slice none 0 0] 25)).alloc (.cells #[.int .i64 k, .int .i64 n, (.slice (some ⟨w.heap.size + 1 + 1 + 1, 0, none⟩) l.length l.length)] 25)) (.cells (madeCells #[.int .i64 0, .int .i64 0, .slice none 0 0] (l.length * 3)) 25)
  rwa [show (((w.alloc (.cells #[.int .i64 k, .int .i64 n, .slice a l.length cap] 25)).alloc (.cells #[.int .i64 0, .int .i64 0, .slice none 0 0] 25)).alloc (.cells #[.int .i64 k, .int .i64 n, (.slice (some ⟨w.heap.size + 1 + 1 + 1, 0, none⟩) l.length l.length)] 25)).heap.size = w.heap.size + 1 + 1 + 1 by simp] at this)
 go_enter Tryz.func15, Tryz.ntmps15
 go_wp2_with fail
 generalize ((((w.alloc (.cells #[.int .i64 k, .int .i64 n, .slice a l.length cap] 25)).alloc (.cells #[.int .i64 0, .int .i64 0, .slice none 0 0] 25)).alloc (.cells #[.int .i64 k, .int .i64 n, (.slice (some ⟨w.heap.size + 1 + 1 + 1, 0, none⟩) l.length l.length)] 25)).alloc (.cells (madeCells #[.int .i64 0, .int .i64 0, .slice none 0 0] (l.length * 3)) 25)) = W2 at *
 clear hmk
 go_loopw [23] (fun i wr => ∃ (q : Nat) (F : List Nat), q ≤ l.length ∧ i = .int .i64 q ∧ Below w.heap.size w wr ∧ VarAt (w.heap.size + 1) 0 0 (.slice none 0 0) wr ∧ VarAt (w.heap.size + 1 + 1) k n (.slice (some ⟨w.heap.size + 1 + 1 + 1, 0, none⟩) l.length l.length) wr ∧
   (∃ cs : Array Value, wr.heap[w.heap.size + 1 + 1 + 1]? = some (.cells cs 25 (0, 0)) ∧ cs.size = l.length * 3) ∧ RowOwn wr (l.take q) (w.heap.size + 1 + 1 + 1) 0 F ∧ F.Nodup ∧ ∀ x ∈ F, w.heap.size + 1 + 1 + 1 < x ∧ x < wr.heap.size) (fun i _ => l.length - (intOf i).toNat)
 case atStart => exact ⟨0, [], Nat.zero_le _, rfl, HB2.out, HZ2.out, HC2.out, ⟨_, HR2.out, size_madeCells _ _⟩, by rw [List.take_zero, RowOwn], List.nodup_nil, fun x h => by cases h⟩
 case round =>
  obtain ⟨q, F, hq, rfl, hb, hyz, hy4, ⟨cs, hcs, hcz⟩, hro, hnd, hF⟩ := hrel
  have HB := tuck hb
  have HYZ := tuck hyz
  have HY4 := tuck hy4
  have HCS := tuck hcs
  have HRO := tuck hro
  have HND := tuck hnd
  have HF := tuck hF
  clear hb hyz hy4 hcs hro hnd hF
  obtain ⟨z4, a0, a1, a2, af⟩ := HY4.out.facts
  by_cases hlt : q < l.length
  ·have hlti : ((q : Int) < (l.length : Int)) := by omega
   have hqi : (0 : Int) ≤ (q : Int) := by omega
   have hzr4 := (block_of_cells HCS.out).1
   have HTAKE1 : Hid (l.take (q + 1) = l.take q ++ [l[q]]) := List.take_succ_eq_append_getElem hlt
   obtain ⟨rfl, _, hbw⟩ := HP.out (by intro e; rw [e] at hlt; simp at hlt)
   obtain ⟨s, c0, c1, c2, hs⟩ := HC.out q hlt
   obtain ⟨sa, sc, rfl⟩ := hs.form
   replace c0 := (HB.out.cell (p := ⟨bb, o + q * 3, none⟩) hbw).trans c0
   replace c1 := (HB.out.cell (p := ⟨bb, o + q * 3 + 1, none⟩) hbw).trans c1
   replace c2 := (HB.out.cell (p := ⟨bb, o + q * 3 + 2, none⟩) hbw).trans c2
   have HS := tuck hs
   have HCALL : Hid (∀ w1, Below w.heap.size w w1 → Calls Tryz.prog 15 #[.agg #[.int .i64 l[q].kind, .int .i64 l[q].num, .slice sa l[q].kids.length sc]] w1 (MadePost w1 l[q])) := fun w1 h1 => by
    have := HI.out q hlt l[q].kind l[q].num w1 _ (by have := kids_get_lt l q hlt; have := HSZ.out; omega) (HS.out.below h1)
    rwa [Tm.eta] at this
   clear hs HI
   generalize l[q] = x at *
   go_wp2_with fail
   have hbk := below1 wr (.cells #[.int .i64 x.kind, .int .i64 x.num, .slice sa x.kids.length sc] 25)
   have hz4k : wr.heap.size < (wr.alloc (.cells #[.int .i64 x.kind, .int .i64 x.num, .slice sa x.kids.length sc] 25)).heap.size := by simp
   have k0 := VarAt.new wr x.kind x.num (.slice sa x.kids.length sc)
   have HS0 : Hid ((w.heap.size + 1 + 1 < (wr.alloc (.cells #[.int .i64 x.kind, .int .i64 x.num, .slice sa x.kids.length sc] 25)).drew.heap.size ∧ (wr.alloc (.cells #[.int .i64 x.kind, .int .i64 x.num, .slice sa x.kids.length sc] 25)).drew.cell? ⟨w.heap.size + 1 + 1, 2, none⟩ = some (.slice (some ⟨w.heap.size + 1 + 1 + 1, 0, none⟩) l.length l.length)) ∧ (wr.alloc (.cells #[.int .i64 x.kind, .int .i64 x.num, .slice sa x.kids.length sc] 25)).drew.cell? ⟨wr.heap.size, 0, none⟩ = some (.int .i64 x.kind) ∧ (wr.alloc (.cells #[.int .i64 x.kind, .int .i64 x.num, .slice sa x.kids.length sc] 25)).drew.cell? ⟨wr.heap.size, 1, none⟩ = some (.int .i64 x.num) ∧ (wr.alloc (.cells #[.int .i64 x.kind, .int .i64 x.num, .slice sa x.kids.length sc] 25)).drew.cell? ⟨wr.heap.size, 2, none⟩ = some (.slice sa x.kids.length sc)) := tuck
    ⟨⟨Nat.lt_of_lt_of_le z4 hbk.size, (hbk.cell (p := ⟨w.heap.size + 1 + 1, 2, none⟩) z4).trans a2⟩, k0.facts.2.1, k0.facts.2.2.1, k0.facts.2.2.2.1⟩
   have HKV := tuck k0
   have hkne : wr.heap.size ≠ w.heap.size + 1 + 1 + 1 := by omega
   have HBK := tuck (bAfter HB.out hbk)
   have HYK := tuck (HY4.out.below hbk)
   have HYZK := tuck (HYZ.out.below hbk)
   have HCSK := tuck ((hbk.block _ hzr4).trans HCS.out)
   have HROK := tuck (HRO.out.keep (fun i _ => hbk.cell (p := ⟨w.heap.size + 1 + 1 + 1, 0 + i, none⟩) hzr4) (fun y hy => SameAt.of_block (hbk.block y (HF.out y hy).2)))
   have HFK : Hid (∀ y ∈ F, w.heap.size + 1 + 1 + 1 < y ∧ y < (wr.alloc (.cells #[.int .i64 x.kind, .int .i64 x.num, .slice sa x.kids.length sc] 25)).heap.size) := tuck fun y hy => ⟨(HF.out y hy).1, Nat.lt_of_lt_of_le (HF.out y hy).2 hbk.size⟩
   have hzrk : w.heap.size + 1 + 1 + 1 < (wr.alloc (.cells #[.int .i64 x.kind, .int .i64 x.num, .slice sa x.kids.length sc] 25)).heap.size := Nat.lt_of_lt_of_le hzr4 hbk.size
   clear hbk k0 a0 a1 a2 c0 c1 c2 HB HYZ HY4 HCS HRO HF hzr4
   generalize wr.alloc (.cells #[.int .i64 x.kind, .int .i64 x.num, .slice sa x.kids.length sc] 25) = WK at *
   generalize wr.heap.size = gk at *
   go_region_held3 (fun w' => (w.heap.size + 1 + 1 < w'.heap.size ∧ w'.cell? ⟨w.heap.size + 1 + 1, 2, none⟩ = some (.slice (some ⟨w.heap.size + 1 + 1 + 1, 0, none⟩) l.length l.length)) ∧ w'.cell? ⟨gk, 0, none⟩ = some (.int .i64 x.kind) ∧ w'.cell? ⟨gk, 1, none⟩ = some (.int .i64 x.num) ∧ w'.cell? ⟨gk, 2, none⟩ = some (.slice sa x.kids.length sc)) (first | exact HS0.out | exact ⟨⟨HV3.out.facts.1, HV3.out.facts.2.2.2.1⟩, HK3.out.facts.2.1, HK3.out.facts.2.2.1, HK3.out.facts.2.2.2.1⟩ | exact ⟨⟨HV4.out.facts.1, HV4.out.facts.2.2.2.1⟩, HK4.out.facts.2.1, HK4.out.facts.2.2.1, HK4.out.facts.2.2.2.1⟩) ((go_at_call 15; refine (HCALL.out _ (bAfter HBK.out (Below.refl _ _).drew)).mono ?_; rintro e w3 ⟨hb3, tv, rfl, sv, F2, rfl, hs2, hnd2, hF2⟩; obtain ⟨sva, svc, rfl⟩ := hs2.form; have HV3 := tuck ((HYK.out.below (Below.refl _ _).drew).below hb3); have HV4 := tuck (HV3.out.far3 (Nat.ne_of_lt (Nat.lt_succ_self _)) (q * 3) (q * 3 + 1) (q * 3 + 2) (.int .i64 x.kind) (.int .i64 x.num) (.slice sva x.kids.length svc)); have HC3 := tuck ((hb3.block (w.heap.size + 1 + 1 + 1) hzrk).trans HCSK.out); have c30 := ((block_of_cells HC3.out).2.1 (q * 3)).trans (Array.getElem?_eq_getElem (by omega)); have c31 := ((block_of_cells HC3.out).2.1 (q * 3 + 1)).trans (Array.getElem?_eq_getElem (by omega)); have c32 := ((block_of_cells HC3.out).2.1 (q * 3 + 2)).trans (Array.getElem?_eq_getElem (by omega)); have c3f := (block_of_cells HC3.out).2.2; have HK3 := tuck ((HKV.out.below (Below.refl _ _).drew).below hb3); have HK4 := tuck (HK3.out.far3 hkne (q * 3) (q * 3 + 1) (q * 3 + 2) (.int .i64 x.kind) (.int .i64 x.num) (.slice sva x.kids.length svc))))
   have HIN := tuck hs2
   have HN2 := tuck hnd2
   have HF2 := tuck hF2
   have HB' := tuck hb3
   clear hs2 hnd2 hF2 hb3 c30 c31 c32 c3f
   go_wp2_with fail
   go_roundw
   case rel =>
    have hd : WK.drew.heap.size = WK.heap.size := rfl
    have hRF : w.heap.size + 1 + 1 + 1 ∉ F := fun h => by have := (HFK.out _ h).1; omega
    have hRF2 : w.heap.size + 1 + 1 + 1 ∉ F2 := fun h => by have := (HF2.out _ h).1; omega
    have hro3 : RowOwn w3 (l.take q) (w.heap.size + 1 + 1 + 1) 0 F := HROK.out.keep (fun i _ => HB'.out.cell (p := ⟨w.heap.size + 1 + 1 + 1, 0 + i, none⟩) hzrk) (fun y hy => SameAt.of_block (HB'.out.block y (HFK.out y hy).2))
    obtain ⟨hp1, hp2⟩ := row_put HC3.out hlt hcz hro3 HIN.out hRF hRF2
    have hb5 := bAfter HBK.out (bAfter (Below.refl _ _).drew HB'.out)
    refine ⟨q + 1, F ++ F2, by omega, by go_num, bSet3 hb5 (by omega) _ _ _ _ _ _, ?_, HV4.out, hp1, by rw [HTAKE1.out]; exact hp2, ?_, fun y hy => ?_⟩
    ·exact (((HYZK.out.below (Below.refl _ _).drew).below HB'.out).far3 (by omega) _ _ _ _ _ _)
    ·refine List.nodup_append.2 ⟨HND.out, HN2.out, fun a ha b hb e => ?_⟩
     have := (HFK.out a ha).2
     have := (HF2.out b hb).1
     omega
    ·rw [size_set3]
     have hz := HB'.out.size
     rcases List.mem_append.1 hy with hy | hy
     ·have := HFK.out y hy
      omega
     ·have := HF2.out y hy
      omega
   case measure => simp [intOf]; omega
  ·have hge2 : ¬ ((q : Int) < (l.length : Int)) := by omega
   have e : q = l.length := by omega
   subst e
   obtain ⟨zv, v0, v1, v2, vf⟩ := HYZ.out.facts
   go_wp2_with fail
   refine bodyPost_ret (v := .agg #[.int .i64 k, .int .i64 n, (.slice (some ⟨w.heap.size + 1 + 1 + 1, 0, none⟩) l.length l.length)]) (by simp [results, Tryz.results15, go_sem, *]) rfl (HPOST.out _ _ ((w.heap.size + 1 + 1 + 1) :: F) ?_ ?_ (List.nodup_cons.2 ⟨fun h => by have := (HF.out _ h).1; omega, HND.out⟩) fun y hy => ?_)
   ·exact bSet3 HB.out (by omega) _ _ _ _ _ _
   ·have hso : SlOwn wr l (.slice (some ⟨w.heap.size + 1 + 1 + 1, 0, none⟩) l.length l.length) ((w.heap.size + 1 + 1 + 1) :: F) := by
     have hro := HRO.out
     rw [List.take_length] at hro
     exact ⟨some ⟨w.heap.size + 1 + 1 + 1, 0, none⟩, l.length, w.heap.size + 1 + 1 + 1, F, rfl, by unfold maxLen; omega, Or.inr ⟨rfl, rfl, (block_of_cells HCS.out).2.2⟩, fun _ => hro⟩
    refine hso.set3 (fun h => ?_) _ _ _ _ _ _
    rcases List.mem_cons.1 h with h | h
    ·omega
    ·have := (HF.out _ h).1; omega
   ·rw [size_set3]
    have := (block_of_cells HCS.out).1
    rcases List.mem_cons.1 hy with rfl | hy
    ·omega
    ·have := HF.out y hy
     omega
end Go.Proofs.YtlbikgnanabjgaaGreat
