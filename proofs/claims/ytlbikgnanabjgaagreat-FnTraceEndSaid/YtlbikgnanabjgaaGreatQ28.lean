/-
  CopyG.
-/
import Derived.Test.YtlbikgnanabjgaaGreatQ17
namespace Go.Proofs.YtlbikgnanabjgaaGreat
open Go.RowKit
set_option maxRecDepth 100000 in
set_option maxHeartbeats 2000000 in
theorem lcopy_any : ∀ (l : List Tm) (k n : Int) (w : World) (s : Value), sizes l ≤ 1000000 → SlIn w 0 l s →
  Calls Tryz.prog 17 #[.agg #[.int .i64 k, .int .i64 n, s]] w (MadePost w (Tm.mk k n l)) := by
 intro l
 induction l using Tm.ind with
 | h l ih =>
 intro k n w v hsz hin
 obtain ⟨a, cap, bb, o, rfl, hl, hp, hc⟩ := hin.open
 clear hin
 have HI := tuck ih
 have HP := tuck hp
 have HC := tuck hc
 have HPOST : Hid (∀ w' s F, Below w.heap.size w w' → SlOwn w' l s F → F.Nodup → (∀ g ∈ F, w.heap.size ≤ g ∧ g < w'.heap.size) → MadePost w (Tm.mk k n l) (.returned (.agg #[.int .i64 k, .int .i64 n, s])) w') := fun w' s F a1 a2 a3 a4 =>
  ⟨a1, _, rfl, s, F, rfl, a2, a3, a4⟩
 generalize MadePost w (Tm.mk k n l) = post at *
 have hl4 : l.length ≤ 1000000 := Nat.le_trans (length_le_sizes l) hsz
 have HSZ := tuck hsz
 clear ih hp hc hsz
 unfold maxLen at hl
 go_enter Tryz.func17, Tryz.ntmps17
 go_wp2_with fail
 have HBW0 := tuck (below3 w (.cells #[.int .i64 k, .int .i64 n, .slice a l.length cap] 25) (.cells #[.int .i64 0, .int .i64 0, .slice none 0 0] 25) (.cells #[.int .i64 k, .int .i64 n, .slice none 0 0] 25))
 have HY3 := tuck (((VarAt.new w k n (.slice a l.length cap)).below (below1 _ (.cells #[.int .i64 0, .int .i64 0, .slice none 0 0] 25))).below (below1 _ (.cells #[.int .i64 k, .int .i64 n, .slice none 0 0] 25)))
 have HY6 := tuck ((var_new1 w (.cells #[.int .i64 k, .int .i64 n, .slice a l.length cap] 25) 0 0 (.slice none 0 0)).below (below1 _ (.cells #[.int .i64 k, .int .i64 n, .slice none 0 0] 25)))
 have HY7 := tuck (var_new2 w (.cells #[.int .i64 k, .int .i64 n, .slice a l.length cap] 25) (.cells #[.int .i64 0, .int .i64 0, .slice none 0 0] 25) k n (.slice none 0 0))
 have g1 := True.intro
 have hbw0 : Below w.heap.size w (((w.alloc (.cells #[.int .i64 k, .int .i64 n, .slice a l.length cap] 25)).alloc (.cells #[.int .i64 0, .int .i64 0, .slice none 0 0] 25)).alloc (.cells #[.int .i64 k, .int .i64 n, .slice none 0 0] 25)) := HBW0.out
 have hy3 : VarAt w.heap.size k n (.slice a l.length cap) (((w.alloc (.cells #[.int .i64 k, .int .i64 n, .slice a l.length cap] 25)).alloc (.cells #[.int .i64 0, .int .i64 0, .slice none 0 0] 25)).alloc (.cells #[.int .i64 k, .int .i64 n, .slice none 0 0] 25)) := HY3.out
 have hy6 : VarAt (w.heap.size + 1) 0 0 (.slice none 0 0) (((w.alloc (.cells #[.int .i64 k, .int .i64 n, .slice a l.length cap] 25)).alloc (.cells #[.int .i64 0, .int .i64 0, .slice none 0 0] 25)).alloc (.cells #[.int .i64 k, .int .i64 n, .slice none 0 0] 25)) := HY6.out
 have hy7 : VarAt (w.heap.size + 1 + 1) k (n) (.slice none 0 0) (((w.alloc (.cells #[.int .i64 k, .int .i64 n, .slice a l.length cap] 25)).alloc (.cells #[.int .i64 0, .int .i64 0, .slice none 0 0] 25)).alloc (.cells #[.int .i64 k, .int .i64 n, .slice none 0 0] 25)) := HY7.out
 clear HBW0 HY3 HY6 HY7
 generalize (((w.alloc (.cells #[.int .i64 k, .int .i64 n, .slice a l.length cap] 25)).alloc (.cells #[.int .i64 0, .int .i64 0, .slice none 0 0] 25)).alloc (.cells #[.int .i64 k, .int .i64 n, .slice none 0 0] 25)) = W0 at *
 have HBW0 := tuck hbw0
 have HY3 := tuck hy3
 have HY6 := tuck hy6
 have HY7 := tuck hy7
 clear hbw0 hy3 hy6 hy7 g1
 try clear g2
 go_loopw [4] (fun i wr => ∃ (q : Nat) (vl : Value) (F : List Nat), q ≤ l.length ∧ i = .int .i64 q ∧ Below w.heap.size w wr ∧ VarAt w.heap.size k n (.slice a l.length cap) wr ∧ VarAt (w.heap.size + 1) 0 0 (.slice none 0 0) wr ∧ VarAt (w.heap.size + 1 + 1) k (n) vl wr ∧ RowG (w.heap.size + 1 + 1 + 1) ((l.take q)) vl F wr) (fun i _ => l.length - (intOf i).toNat)
 case atStart => exact ⟨0, _, [], Nat.zero_le _, rfl, HBW0.out, HY3.out, HY6.out, HY7.out, RowG.nil _ _⟩
 case round =>
  obtain ⟨q, vl, F, hq, rfl, hb, hy3, hy6, hy7, hrg⟩ := hrel
  have HB := tuck hb
  have HY3 := tuck hy3
  have HY6 := tuck hy6
  have HY7 := tuck hy7
  have HRG := tuck hrg
  clear hb hy3 hy6 hy7 hrg HBW0
  have hLq : ((l.take q)).length = q := by rw [List.length_take]; omega
  obtain ⟨va, vc, rfl⟩ := HRG.out.form' hLq
  obtain ⟨z3, a0, a1, a2, a3f⟩ := HY3.out.facts
  obtain ⟨z7, c70, c71, c72, c7f⟩ := HY7.out.facts
  by_cases hlt : q < l.length
  ·have hlti : ((q : Int) < (l.length : Int)) := by omega
   have hqi : (0 : Int) ≤ (q : Int) := by omega
   have HTK := tuck (List.take_succ_eq_append_getElem hlt)
   obtain ⟨rfl, _, hbw⟩ := HP.out (by intro e; rw [e] at hlt; simp at hlt)
   obtain ⟨s, c0, c1, c2, hs⟩ := HC.out q hlt
   obtain ⟨sa, sc, rfl⟩ := hs.form
   replace c0 := (HB.out.cell (p := ⟨bb, o + q * 3, none⟩) hbw).trans c0
   replace c1 := (HB.out.cell (p := ⟨bb, o + q * 3 + 1, none⟩) hbw).trans c1
   replace c2 := (HB.out.cell (p := ⟨bb, o + q * 3 + 2, none⟩) hbw).trans c2
   have hbr : bb < wr.heap.size := World.block_lt_of_cell? wr _ c0
   have HS2 := tuck hs
   have HIQ := tuck (fun w' s' (h' : SlIn w' 0 l[q].kids s') => HI.out q hlt l[q].kind l[q].num w' s' (by have := kids_get_lt l q hlt; have := HSZ.out; omega) h')
   rw [Tm.eta] at HIQ
   clear hs HI
   generalize l[q] = T at *
   have HB3 : Hid (bb ≠ w.heap.size + 1 + 1 ∧ some (w.heap.size + 1 + 1) ≠ (Value.slice va q vc).ownBlock ∧ some (w.heap.size) ≠ (Value.slice va q vc).ownBlock ∧ some bb ≠ (Value.slice va q vc).ownBlock ∧ some (w.heap.size + 1) ≠ (Value.slice va q vc).ownBlock) := by
    have hlo := HRG.out.lt
    refine ⟨by omega, fun e => ?_, fun e => ?_, fun e => ?_, fun e => ?_⟩ <;> (have := (hlo _ e.symm).1; omega)
   have hx0 : (g3x wr (w.heap.size) bb (o + q * 3) k (.slice (some ⟨bb, o, none⟩) l.length cap) (.slice sa T.kids.length sc) T.kind T.num) := ⟨⟨z3, hbr⟩, a0, a2, c0, c1, c2⟩
   unfold g3x at hx0
   have HX0 := tuck hx0
   clear hx0
   obtain ⟨i0, hi0, hz0, hz1, hz2⟩ := info_parts info_termG
   have hq4 : q + 1 ≤ maxLen := by unfold maxLen; omega
   have hqb : (q + 1) * 40 ≤ 140737488355328 := by omega
   go_wp2_with fail
   have HT12 : ∀ w' : World, (fun w' : World => w'.cell? ⟨w.heap.size + 1 + 1, 2, none⟩ = some (.slice va q vc) ∧ ((w.heap.size < w'.heap.size ∧ bb < w'.heap.size) ∧ w'.cell? ⟨w.heap.size, 0, none⟩ = some (.int .i64 k) ∧ w'.cell? ⟨w.heap.size, 2, none⟩ = some (.slice (some ⟨bb, o, none⟩) l.length cap) ∧ w'.cell? ⟨bb, o + q * 3, none⟩ = some (.int .i64 T.kind) ∧ w'.cell? ⟨bb, o + q * 3 + 1, none⟩ = some (.int .i64 T.num) ∧ w'.cell? ⟨bb, o + q * 3 + 2, none⟩ = some (.slice sa T.kids.length sc))) w' → (fun w' : World => (w.heap.size < w'.heap.size ∧ bb < w'.heap.size) ∧ w'.cell? ⟨w.heap.size, 0, none⟩ = some (.int .i64 k) ∧ w'.cell? ⟨w.heap.size, 2, none⟩ = some (.slice (some ⟨bb, o, none⟩) l.length cap) ∧ w'.cell? ⟨bb, o + q * 3, none⟩ = some (.int .i64 T.kind) ∧ w'.cell? ⟨bb, o + q * 3 + 1, none⟩ = some (.int .i64 T.num) ∧ w'.cell? ⟨bb, o + q * 3 + 2, none⟩ = some (.slice sa T.kids.length sc)) w' := fun w' h => h.2
   refine AnyTwo.begin (fun w' : World => w'.cell? ⟨w.heap.size + 1 + 1, 2, none⟩ = some (.slice va q vc) ∧ ((w.heap.size < w'.heap.size ∧ bb < w'.heap.size) ∧ w'.cell? ⟨w.heap.size, 0, none⟩ = some (.int .i64 k) ∧ w'.cell? ⟨w.heap.size, 2, none⟩ = some (.slice (some ⟨bb, o, none⟩) l.length cap) ∧ w'.cell? ⟨bb, o + q * 3, none⟩ = some (.int .i64 T.kind) ∧ w'.cell? ⟨bb, o + q * 3 + 1, none⟩ = some (.int .i64 T.num) ∧ w'.cell? ⟨bb, o + q * 3 + 2, none⟩ = some (.slice sa T.kids.length sc))) (fun w' : World => (w.heap.size < w'.heap.size ∧ bb < w'.heap.size) ∧ w'.cell? ⟨w.heap.size, 0, none⟩ = some (.int .i64 k) ∧ w'.cell? ⟨w.heap.size, 2, none⟩ = some (.slice (some ⟨bb, o, none⟩) l.length cap) ∧ w'.cell? ⟨bb, o + q * 3, none⟩ = some (.int .i64 T.kind) ∧ w'.cell? ⟨bb, o + q * 3 + 1, none⟩ = some (.int .i64 T.num) ∧ w'.cell? ⟨bb, o + q * 3 + 2, none⟩ = some (.slice sa T.kids.length sc)) 9 (by kernel_rfl) ?_
   have hS1 : (fun w' : World => w'.cell? ⟨w.heap.size + 1 + 1, 2, none⟩ = some (.slice va q vc) ∧ ((w.heap.size < w'.heap.size ∧ bb < w'.heap.size) ∧ w'.cell? ⟨w.heap.size, 0, none⟩ = some (.int .i64 k) ∧ w'.cell? ⟨w.heap.size, 2, none⟩ = some (.slice (some ⟨bb, o, none⟩) l.length cap) ∧ w'.cell? ⟨bb, o + q * 3, none⟩ = some (.int .i64 T.kind) ∧ w'.cell? ⟨bb, o + q * 3 + 1, none⟩ = some (.int .i64 T.num) ∧ w'.cell? ⟨bb, o + q * 3 + 2, none⟩ = some (.slice sa T.kids.length sc))) wr.drew := ⟨c72, HX0.out⟩
   refine AnyTwo.tk HT12 (i := 0) (oi := ⟨some 17, _, _, _, _, _⟩) rfl (ph_one (by kernel_rfl) hS1) ?_
   try simp only [pts]
   refine AnyTwo.take (i := 1) (oi := ⟨some 18, _, _, _, _, _⟩) (v := ?va1) rfl (by kernel_rfl) (by kernel_rfl) (by decide +kernel) (by kernel_rfl) (by rfl) (by kernel_rfl) (fun _ _ _ h => h) (Or.inl ⟨by rfl, ?ya1⟩) hS1 ?ra1
   case ya1 => (intro w hSw; (try dsimp only at hSw); go_simp; try (with_reducible rfl))
   try simp only [pts]
   refine AnyTwo.tk HT12 (i := 2) (oi := ⟨some 19, _, _, _, _, _⟩) rfl (ph_one (by kernel_rfl) hS1) ?_
   try simp only [pts]
   refine AnyTwo.tk HT12 (i := 3) (oi := ⟨some 20, _, _, _, _, _⟩) rfl (ph_one (by kernel_rfl) hS1) ?_
   try simp only [pts]
   refine AnyTwo.tk HT12 (i := 4) (oi := ⟨some 21, _, _, _, _, _⟩) rfl (ph_one (by kernel_rfl) hS1) ?_
   try simp only [pts]
   refine AnyTwo.tk HT12 (i := 5) (oi := ⟨some 22, _, _, _, _, _⟩) rfl (ph_one (by kernel_rfl) hS1) ?_
   try simp only [pts]
   refine AnyTwo.tk HT12 (i := 6) (oi := ⟨some 23, _, _, _, _, _⟩) rfl (ph_one (by kernel_rfl) hS1) ?_
   try simp only [pts]
   refine AnyTwo.step (i := 7) (o := ⟨some 24, _, _, _, _, _⟩) (by kernel_rfl) rfl (fun K hK => ?_)
   go_simp
   refine (HIQ.out _ _ (HS2.out.below (bAfter HB.out (Below.refl _ _).drew))).mono ?_
   rintro e3 w3 ⟨hb3, tv, rfl, ts, F2, rfl, hs2, hn2, hF2⟩
   obtain ⟨ta, tc, rfl⟩ := hs2.form
   have hbd := bAfter (Below.refl wr.heap.size wr).drew hb3
   have HX3 := tuck (hold2_below HX0.out hbd)
   have HBD := tuck hbd
   have HV7 := tuck (HY7.out.below hbd)
   obtain ⟨z7', d70, d71, d72, d7f⟩ := HV7.out.facts
   have HX4 := tuck (hold2_below HX3.out (below1 w3 (.cells #[.int .i64 T.kind, .int .i64 T.num, .slice ta T.kids.length tc] 25)))
   have HRG4 := tuck ((HRG.out.below hbd).below (below1 w3 (.cells #[.int .i64 T.kind, .int .i64 T.num, .slice ta T.kids.length tc] 25)))
   obtain ⟨xs, hox, hpush⟩ := HRG4.out.grow hLq
   have HOX := tuck hox
   have HPUSH := tuck hpush
   have HS3 := tuck (hs2.alloc (fun g hg => (hF2 g hg).2) (.cells #[.int .i64 T.kind, .int .i64 T.num, .slice ta T.kids.length tc] 25))
   have HN3 := tuck hn2
   have HF3 := tuck hF2
   have d72' := ((below1 w3 (.cells #[.int .i64 T.kind, .int .i64 T.num, .slice ta T.kids.length tc] 25)).cell (p := ⟨w.heap.size + 1 + 1, 2, none⟩) z7').trans d72
   have HZ4 : Hid (w.heap.size + 1 + 1 < (w3.alloc (.cells #[.int .i64 T.kind, .int .i64 T.num, .slice ta T.kids.length tc] 25)).heap.size) := tuck (Nat.lt_of_lt_of_le z7' (below1 w3 _).size)
   clear hox hpush hs2 hn2 hF2 hbd hb3
   have hS1' := And.intro d72 HX3.out
   refine hK.out _ _ (ph_one (by kernel_rfl) hS1') ?_
   clear hK K hS1
   have hS1 := hS1'
   clear hS1'
   try simp only [pts]
   refine AnyTwo.step (i := 8) (o := ⟨some 25, _, _, _, _, _⟩) (by kernel_rfl) rfl (fun K hK => ?_)
   go_simp
   have hS1' := And.intro d72' HX4.out
   refine hK.out _ _ (ph_one (by kernel_rfl) hS1') ?_
   clear hK K hS1
   have hS1 := hS1'
   clear hS1'
   try simp only [pts]
   refine AnyTwo.step (i := 9) (o := ⟨some 26, _, _, _, _, _⟩) (by kernel_rfl) rfl (fun K hK => ?_)
   refine step_append_lies _ (by rfl) _ _ _ (by rfl) (w.heap.size + 1 + 1 + 1) 25 i0 _ 3 40 Tryz.underlying23 hi0 hz0 hz1 hz2 rfl (by omega) _ _ _ (by rfl) HOX.out ⟨w3.heap.size, 0, none⟩ 1 1 [.int .i64 T.kind, .int .i64 T.num, .slice ta T.kids.length tc] (by rfl) (by rfl) (World.news_of_block (cs := #[.int .i64 T.kind, .int .i64 T.num, .slice ta T.kids.length tc]) (t := 25) (fr := (0, 0)) (heap_new w3 _)) (by simp [Value.oneCell']) (by omega) hq4 hqb (by simp; omega) (w3.heap.size + 1) (by simp) ?_
   intro gg gcap w4 hown4 hgrow hat hlt4
   have k70 := (hgrow.cell_far ⟨w.heap.size + 1 + 1, 2, none⟩ HZ4.out HB3.out.2.1).trans d72'
   have k7f := (hgrow.frozen_far ⟨w.heap.size + 1 + 1, 2, none⟩ HZ4.out HB3.out.2.1).trans (((below1 w3 _).frozen (p := ⟨w.heap.size + 1 + 1, 2, none⟩) z7').trans (d7f 2))
   have HX5 := tuck (hold2_grown HX4.out hgrow ⟨HB3.out.2.2.1, HB3.out.2.2.2.1⟩)
   refine hK.out _ _ (ph_end (by kernel_rfl) (HX5.out)) ?_
   clear hK K
   try simp only [pts]
   refine AnyTwo.tk HT12 (i := 10) (oi := ⟨some 27, _, _, _, _, _⟩) rfl (ph_end (by kernel_rfl) HX5.out) ?_
   try simp only [pts]
   refine AnyTwo.step (i := 11) (o := ⟨none, _, _, _, _, _⟩) (by kernel_rfl) rfl (fun K hK => ?_)
   go_simp
   refine hK.out _ _ (ph_end (by kernel_rfl) (hold2_set HX5.out (p := ⟨w.heap.size + 1 + 1, 2, none⟩) (show w.heap.size + 1 + 1 ≠ w.heap.size by omega) (Ne.symm HB3.out.1))) ?_
   clear hK K
   try simp only [pts]
   refine AnyTwo.done (by kernel_rfl) ?_ _
   have HZ3 : Hid (wr.heap.size ≤ w3.heap.size) := HBD.out.size
   clear d70 d71 d72 d7f z7' d72' hS1 HT12 k70 k7f
   go_wp2_with fail
   go_roundw
   case rel =>
    have hz3 := HZ3.out
    have hdr : wr.drew.heap.size = wr.heap.size := rfl
    have hb4 : Below wr.heap.size wr (w3.alloc (.cells #[.int .i64 T.kind, .int .i64 T.num, .slice ta T.kids.length tc] 25)) := bAfter HBD.out (below1 _ _)
    have hlt := HRG.out.lt
    have hflt := HRG.out.flt
    refine ⟨q + 1, .slice (some ⟨gg, 0, none⟩) (q + 1) gcap, F ++ F2, by omega, by go_num, ?_, ?_, ?_, ?_, ?_⟩
    ·exact ((bAfter HB.out hb4).grown hgrow (bAfter HB.out hb4).size (fun g hg => by have := (hlt g hg).1; omega)).setCell (by show w.heap.size ≤ w.heap.size + 1 + 1; omega) _
    ·exact ((HY3.out.below hb4).grown hgrow HB3.out.2.2.1).far (by show w.heap.size ≠ w.heap.size + 1 + 1; omega) _
    ·exact ((HY6.out.below hb4).grown hgrow HB3.out.2.2.2.2).far (by show w.heap.size + 1 ≠ w.heap.size + 1 + 1; omega) _
    ·exact ((HY7.out.below hb4).grown hgrow HB3.out.2.1).set2
    ·rw [HTK.out]
     refine (HPUSH.out _ _ F2 w4 T HS3.out HN3.out (fun g hg => ?_) hown4 hgrow (hat.imp (fun h => h.symm) (fun h => by rw [h]; simp [Value.ownBlock]))).setCell (by show w.heap.size + 1 + 1 < w.heap.size + 1 + 1 + 1; omega) _
     have h1 := HF3.out g hg
     refine ⟨by omega, by simp; omega, fun hf => by have := (hflt g hf).2.1; omega, fun e => by have := (hlt g e).2; omega⟩
   case measure => simp [intOf]; omega
  ·have hge2 : ¬ ((q : Int) < (l.length : Int)) := by omega
   have e : q = l.length := by omega
   subst e
   obtain ⟨z6, c60, c61, c62, c6f⟩ := HY6.out.facts
   obtain ⟨G, hG, hGn, hGb⟩ := HRG.out.done (by rw [hLq]; unfold maxLen; omega)
   rw [List.take_length] at hG
   go_wp2_with fail
   refine bodyPost_ret (v := .agg #[.int .i64 k, .int .i64 ((n)), .slice va l.length vc]) (by simp [results, Tryz.results17, go_sem, *]) rfl (HPOST.out _ _ G ?_ ?_ hGn fun g hg => ?_)
   ·exact bSet3 HB.out (by omega) _ _ _ _ _ _
   ·exact hG.set3 (fun h => by have := (hGb _ h).1; omega) _ _ _ _ _ _
   ·rw [size_set3]
    have := hGb g hg
    omega
end Go.Proofs.YtlbikgnanabjgaaGreat
namespace Go.Proofs.YtlbikgnanabjgaaGreat
open Go.RowKit
def CopyPost (w : World) (T : Tm) (e : Ending) (w' : World) : Prop := Below w.heap.size w w' ∧ ∃ base s F, w.heap.size ≤ base ∧ base ≤ w'.heap.size ∧ e = .returned (.agg #[.int .i64 T.kind, .int .i64 T.num, s]) ∧ RowG base T.kids s F w'
set_option maxRecDepth 100000 in
set_option maxHeartbeats 2000000 in
theorem lcopyG_any (l : List Tm) (k n : Int) (w : World) (v : Value) (hsz : sizes l ≤ 1000000) (hin : SlIn w 0 l v) :
  Calls Tryz.prog 17 #[.agg #[.int .i64 k, .int .i64 n, v]] w (CopyPost w (Tm.mk k n l)) := by
 obtain ⟨a, cap, bb, o, rfl, hl, hp, hc⟩ := hin.open
 clear hin
 have HI : Hid (∀ (i : Nat) (hi : i < l.length) (k n : Int) (w : World) (s : Value), sizes l[i].kids ≤ 1000000 → SlIn w 0 l[i].kids s → Calls Tryz.prog 17 #[.agg #[.int .i64 k, .int .i64 n, s]] w (MadePost w (Tm.mk k n l[i].kids))) := tuck (fun i hi k n w s h1 h2 => lcopy_any l[i].kids k n w s h1 h2)
 have HP := tuck hp
 have HC := tuck hc
 have HPOST : Hid (∀ w' s F, Below w.heap.size w w' → w.heap.size + 1 + 1 + 1 ≤ w'.heap.size → RowG (w.heap.size + 1 + 1 + 1) l s F w' → CopyPost w (Tm.mk k n l) (.returned (.agg #[.int .i64 k, .int .i64 n, s])) w') := fun w' s F a1 a3 a2 =>
  ⟨a1, _, s, F, by omega, a3, rfl, a2⟩
 generalize CopyPost w (Tm.mk k n l) = post at *
 have hl4 : l.length ≤ 1000000 := Nat.le_trans (length_le_sizes l) hsz
 have HSZ := tuck hsz
 clear hp hc hsz
 unfold maxLen at hl
 go_enter Tryz.func17, Tryz.ntmps17
 go_wp2_with fail
 have HBW0 := tuck (below3 w (.cells #[.int .i64 k, .int .i64 n, .slice a l.length cap] 25) (.cells #[.int .i64 0, .int .i64 0, .slice none 0 0] 25) (.cells #[.int .i64 k, .int .i64 n, .slice none 0 0] 25))
 have HY3 := tuck (((VarAt.new w k n (.slice a l.length cap)).below (below1 _ (.cells #[.int .i64 0, .int .i64 0, .slice none 0 0] 25))).below (below1 _ (.cells #[.int .i64 k, .int .i64 n, .slice none 0 0] 25)))
 have HY6 := tuck ((var_new1 w (.cells #[.int .i64 k, .int .i64 n, .slice a l.length cap] 25) 0 0 (.slice none 0 0)).below (below1 _ (.cells #[.int .i64 k, .int .i64 n, .slice none 0 0] 25)))
 have HY7 := tuck (var_new2 w (.cells #[.int .i64 k, .int .i64 n, .slice a l.length cap] 25) (.cells #[.int .i64 0, .int .i64 0, .slice none 0 0] 25) k n (.slice none 0 0))
 have g1 := True.intro
 have hbw0 : Below w.heap.size w (((w.alloc (.cells #[.int .i64 k, .int .i64 n, .slice a l.length cap] 25)).alloc (.cells #[.int .i64 0, .int .i64 0, .slice none 0 0] 25)).alloc (.cells #[.int .i64 k, .int .i64 n, .slice none 0 0] 25)) := HBW0.out
 have hy3 : VarAt w.heap.size k n (.slice a l.length cap) (((w.alloc (.cells #[.int .i64 k, .int .i64 n, .slice a l.length cap] 25)).alloc (.cells #[.int .i64 0, .int .i64 0, .slice none 0 0] 25)).alloc (.cells #[.int .i64 k, .int .i64 n, .slice none 0 0] 25)) := HY3.out
 have hy6 : VarAt (w.heap.size + 1) 0 0 (.slice none 0 0) (((w.alloc (.cells #[.int .i64 k, .int .i64 n, .slice a l.length cap] 25)).alloc (.cells #[.int .i64 0, .int .i64 0, .slice none 0 0] 25)).alloc (.cells #[.int .i64 k, .int .i64 n, .slice none 0 0] 25)) := HY6.out
 have hy7 : VarAt (w.heap.size + 1 + 1) k (n) (.slice none 0 0) (((w.alloc (.cells #[.int .i64 k, .int .i64 n, .slice a l.length cap] 25)).alloc (.cells #[.int .i64 0, .int .i64 0, .slice none 0 0] 25)).alloc (.cells #[.int .i64 k, .int .i64 n, .slice none 0 0] 25)) := HY7.out
 clear HBW0 HY3 HY6 HY7
 generalize (((w.alloc (.cells #[.int .i64 k, .int .i64 n, .slice a l.length cap] 25)).alloc (.cells #[.int .i64 0, .int .i64 0, .slice none 0 0] 25)).alloc (.cells #[.int .i64 k, .int .i64 n, .slice none 0 0] 25)) = W0 at *
 have HBW0 := tuck hbw0
 have HY3 := tuck hy3
 have HY6 := tuck hy6
 have HY7 := tuck hy7
 clear hbw0 hy3 hy6 hy7 g1
 try clear g2
 go_loopw [4] (fun i wr => ∃ (q : Nat) (vl : Value) (F : List Nat), q ≤ l.length ∧ i = .int .i64 q ∧ Below w.heap.size w wr ∧ VarAt w.heap.size k n (.slice a l.length cap) wr ∧ VarAt (w.heap.size + 1) 0 0 (.slice none 0 0) wr ∧ VarAt (w.heap.size + 1 + 1) k (n) vl wr ∧ RowG (w.heap.size + 1 + 1 + 1) ((l.take q)) vl F wr) (fun i _ => l.length - (intOf i).toNat)
 case atStart => exact ⟨0, _, [], Nat.zero_le _, rfl, HBW0.out, HY3.out, HY6.out, HY7.out, RowG.nil _ _⟩
 case round =>
  obtain ⟨q, vl, F, hq, rfl, hb, hy3, hy6, hy7, hrg⟩ := hrel
  have HB := tuck hb
  have HY3 := tuck hy3
  have HY6 := tuck hy6
  have HY7 := tuck hy7
  have HRG := tuck hrg
  clear hb hy3 hy6 hy7 hrg HBW0
  have hLq : ((l.take q)).length = q := by rw [List.length_take]; omega
  obtain ⟨va, vc, rfl⟩ := HRG.out.form' hLq
  obtain ⟨z3, a0, a1, a2, a3f⟩ := HY3.out.facts
  obtain ⟨z7, c70, c71, c72, c7f⟩ := HY7.out.facts
  by_cases hlt : q < l.length
  ·have hlti : ((q : Int) < (l.length : Int)) := by omega
   have hqi : (0 : Int) ≤ (q : Int) := by omega
   have HTK := tuck (List.take_succ_eq_append_getElem hlt)
   obtain ⟨rfl, _, hbw⟩ := HP.out (by intro e; rw [e] at hlt; simp at hlt)
   obtain ⟨s, c0, c1, c2, hs⟩ := HC.out q hlt
   obtain ⟨sa, sc, rfl⟩ := hs.form
   replace c0 := (HB.out.cell (p := ⟨bb, o + q * 3, none⟩) hbw).trans c0
   replace c1 := (HB.out.cell (p := ⟨bb, o + q * 3 + 1, none⟩) hbw).trans c1
   replace c2 := (HB.out.cell (p := ⟨bb, o + q * 3 + 2, none⟩) hbw).trans c2
   have hbr : bb < wr.heap.size := World.block_lt_of_cell? wr _ c0
   have HS2 := tuck hs
   have HIQ := tuck (fun w' s' (h' : SlIn w' 0 l[q].kids s') => HI.out q hlt l[q].kind l[q].num w' s' (by have := kids_get_lt l q hlt; have := HSZ.out; omega) h')
   rw [Tm.eta] at HIQ
   clear hs HI
   generalize l[q] = T at *
   have HB3 : Hid (bb ≠ w.heap.size + 1 + 1 ∧ some (w.heap.size + 1 + 1) ≠ (Value.slice va q vc).ownBlock ∧ some (w.heap.size) ≠ (Value.slice va q vc).ownBlock ∧ some bb ≠ (Value.slice va q vc).ownBlock ∧ some (w.heap.size + 1) ≠ (Value.slice va q vc).ownBlock) := by
    have hlo := HRG.out.lt
    refine ⟨by omega, fun e => ?_, fun e => ?_, fun e => ?_, fun e => ?_⟩ <;> (have := (hlo _ e.symm).1; omega)
   have hx0 : (g3x wr (w.heap.size) bb (o + q * 3) k (.slice (some ⟨bb, o, none⟩) l.length cap) (.slice sa T.kids.length sc) T.kind T.num) := ⟨⟨z3, hbr⟩, a0, a2, c0, c1, c2⟩
   unfold g3x at hx0
   have HX0 := tuck hx0
   clear hx0
   obtain ⟨i0, hi0, hz0, hz1, hz2⟩ := info_parts info_termG
   have hq4 : q + 1 ≤ maxLen := by unfold maxLen; omega
   have hqb : (q + 1) * 40 ≤ 140737488355328 := by omega
   go_wp2_with fail
   have HT12 : ∀ w' : World, (fun w' : World => w'.cell? ⟨w.heap.size + 1 + 1, 2, none⟩ = some (.slice va q vc) ∧ ((w.heap.size < w'.heap.size ∧ bb < w'.heap.size) ∧ w'.cell? ⟨w.heap.size, 0, none⟩ = some (.int .i64 k) ∧ w'.cell? ⟨w.heap.size, 2, none⟩ = some (.slice (some ⟨bb, o, none⟩) l.length cap) ∧ w'.cell? ⟨bb, o + q * 3, none⟩ = some (.int .i64 T.kind) ∧ w'.cell? ⟨bb, o + q * 3 + 1, none⟩ = some (.int .i64 T.num) ∧ w'.cell? ⟨bb, o + q * 3 + 2, none⟩ = some (.slice sa T.kids.length sc))) w' → (fun w' : World => (w.heap.size < w'.heap.size ∧ bb < w'.heap.size) ∧ w'.cell? ⟨w.heap.size, 0, none⟩ = some (.int .i64 k) ∧ w'.cell? ⟨w.heap.size, 2, none⟩ = some (.slice (some ⟨bb, o, none⟩) l.length cap) ∧ w'.cell? ⟨bb, o + q * 3, none⟩ = some (.int .i64 T.kind) ∧ w'.cell? ⟨bb, o + q * 3 + 1, none⟩ = some (.int .i64 T.num) ∧ w'.cell? ⟨bb, o + q * 3 + 2, none⟩ = some (.slice sa T.kids.length sc)) w' := fun w' h => h.2
   refine AnyTwo.begin (fun w' : World => w'.cell? ⟨w.heap.size + 1 + 1, 2, none⟩ = some (.slice va q vc) ∧ ((w.heap.size < w'.heap.size ∧ bb < w'.heap.size) ∧ w'.cell? ⟨w.heap.size, 0, none⟩ = some (.int .i64 k) ∧ w'.cell? ⟨w.heap.size, 2, none⟩ = some (.slice (some ⟨bb, o, none⟩) l.length cap) ∧ w'.cell? ⟨bb, o + q * 3, none⟩ = some (.int .i64 T.kind) ∧ w'.cell? ⟨bb, o + q * 3 + 1, none⟩ = some (.int .i64 T.num) ∧ w'.cell? ⟨bb, o + q * 3 + 2, none⟩ = some (.slice sa T.kids.length sc))) (fun w' : World => (w.heap.size < w'.heap.size ∧ bb < w'.heap.size) ∧ w'.cell? ⟨w.heap.size, 0, none⟩ = some (.int .i64 k) ∧ w'.cell? ⟨w.heap.size, 2, none⟩ = some (.slice (some ⟨bb, o, none⟩) l.length cap) ∧ w'.cell? ⟨bb, o + q * 3, none⟩ = some (.int .i64 T.kind) ∧ w'.cell? ⟨bb, o + q * 3 + 1, none⟩ = some (.int .i64 T.num) ∧ w'.cell? ⟨bb, o + q * 3 + 2, none⟩ = some (.slice sa T.kids.length sc)) 9 (by kernel_rfl) ?_
   have hS1 : (fun w' : World => w'.cell? ⟨w.heap.size + 1 + 1, 2, none⟩ = some (.slice va q vc) ∧ ((w.heap.size < w'.heap.size ∧ bb < w'.heap.size) ∧ w'.cell? ⟨w.heap.size, 0, none⟩ = some (.int .i64 k) ∧ w'.cell? ⟨w.heap.size, 2, none⟩ = some (.slice (some ⟨bb, o, none⟩) l.length cap) ∧ w'.cell? ⟨bb, o + q * 3, none⟩ = some (.int .i64 T.kind) ∧ w'.cell? ⟨bb, o + q * 3 + 1, none⟩ = some (.int .i64 T.num) ∧ w'.cell? ⟨bb, o + q * 3 + 2, none⟩ = some (.slice sa T.kids.length sc))) wr.drew := ⟨c72, HX0.out⟩
   refine AnyTwo.tk HT12 (i := 0) (oi := ⟨some 17, _, _, _, _, _⟩) rfl (ph_one (by kernel_rfl) hS1) ?_
   try simp only [pts]
   refine AnyTwo.take (i := 1) (oi := ⟨some 18, _, _, _, _, _⟩) (v := ?va1) rfl (by kernel_rfl) (by kernel_rfl) (by decide +kernel) (by kernel_rfl) (by rfl) (by kernel_rfl) (fun _ _ _ h => h) (Or.inl ⟨by rfl, ?ya1⟩) hS1 ?ra1
   case ya1 => (intro w hSw; (try dsimp only at hSw); go_simp; try (with_reducible rfl))
   try simp only [pts]
   refine AnyTwo.tk HT12 (i := 2) (oi := ⟨some 19, _, _, _, _, _⟩) rfl (ph_one (by kernel_rfl) hS1) ?_
   try simp only [pts]
   refine AnyTwo.tk HT12 (i := 3) (oi := ⟨some 20, _, _, _, _, _⟩) rfl (ph_one (by kernel_rfl) hS1) ?_
   try simp only [pts]
   refine AnyTwo.tk HT12 (i := 4) (oi := ⟨some 21, _, _, _, _, _⟩) rfl (ph_one (by kernel_rfl) hS1) ?_
   try simp only [pts]
   refine AnyTwo.tk HT12 (i := 5) (oi := ⟨some 22, _, _, _, _, _⟩) rfl (ph_one (by kernel_rfl) hS1) ?_
   try simp only [pts]
   refine AnyTwo.tk HT12 (i := 6) (oi := ⟨some 23, _, _, _, _, _⟩) rfl (ph_one (by kernel_rfl) hS1) ?_
   try simp only [pts]
   refine AnyTwo.step (i := 7) (o := ⟨some 24, _, _, _, _, _⟩) (by kernel_rfl) rfl (fun K hK => ?_)
   go_simp
   refine (HIQ.out _ _ (HS2.out.below (bAfter HB.out (Below.refl _ _).drew))).mono ?_
   rintro e3 w3 ⟨hb3, tv, rfl, ts, F2, rfl, hs2, hn2, hF2⟩
   obtain ⟨ta, tc, rfl⟩ := hs2.form
   have hbd := bAfter (Below.refl wr.heap.size wr).drew hb3
   have HX3 := tuck (hold2_below HX0.out hbd)
   have HBD := tuck hbd
   have HV7 := tuck (HY7.out.below hbd)
   obtain ⟨z7', d70, d71, d72, d7f⟩ := HV7.out.facts
   have HX4 := tuck (hold2_below HX3.out (below1 w3 (.cells #[.int .i64 T.kind, .int .i64 T.num, .slice ta T.kids.length tc] 25)))
   have HRG4 := tuck ((HRG.out.below hbd).below (below1 w3 (.cells #[.int .i64 T.kind, .int .i64 T.num, .slice ta T.kids.length tc] 25)))
   obtain ⟨xs, hox, hpush⟩ := HRG4.out.grow hLq
   have HOX := tuck hox
   have HPUSH := tuck hpush
   have HS3 := tuck (hs2.alloc (fun g hg => (hF2 g hg).2) (.cells #[.int .i64 T.kind, .int .i64 T.num, .slice ta T.kids.length tc] 25))
   have HN3 := tuck hn2
   have HF3 := tuck hF2
   have d72' := ((below1 w3 (.cells #[.int .i64 T.kind, .int .i64 T.num, .slice ta T.kids.length tc] 25)).cell (p := ⟨w.heap.size + 1 + 1, 2, none⟩) z7').trans d72
   have HZ4 : Hid (w.heap.size + 1 + 1 < (w3.alloc (.cells #[.int .i64 T.kind, .int .i64 T.num, .slice ta T.kids.length tc] 25)).heap.size) := tuck (Nat.lt_of_lt_of_le z7' (below1 w3 _).size)
   clear hox hpush hs2 hn2 hF2 hbd hb3
   have hS1' := And.intro d72 HX3.out
   refine hK.out _ _ (ph_one (by kernel_rfl) hS1') ?_
   clear hK K hS1
   have hS1 := hS1'
   clear hS1'
   try simp only [pts]
   refine AnyTwo.step (i := 8) (o := ⟨some 25, _, _, _, _, _⟩) (by kernel_rfl) rfl (fun K hK => ?_)
   go_simp
   have hS1' := And.intro d72' HX4.out
   refine hK.out _ _ (ph_one (by kernel_rfl) hS1') ?_
   clear hK K hS1
   have hS1 := hS1'
   clear hS1'
   try simp only [pts]
   refine AnyTwo.step (i := 9) (o := ⟨some 26, _, _, _, _, _⟩) (by kernel_rfl) rfl (fun K hK => ?_)
   refine step_append_lies _ (by rfl) _ _ _ (by rfl) (w.heap.size + 1 + 1 + 1) 25 i0 _ 3 40 Tryz.underlying23 hi0 hz0 hz1 hz2 rfl (by omega) _ _ _ (by rfl) HOX.out ⟨w3.heap.size, 0, none⟩ 1 1 [.int .i64 T.kind, .int .i64 T.num, .slice ta T.kids.length tc] (by rfl) (by rfl) (World.news_of_block (cs := #[.int .i64 T.kind, .int .i64 T.num, .slice ta T.kids.length tc]) (t := 25) (fr := (0, 0)) (heap_new w3 _)) (by simp [Value.oneCell']) (by omega) hq4 hqb (by simp; omega) (w3.heap.size + 1) (by simp) ?_
   intro gg gcap w4 hown4 hgrow hat hlt4
   have k70 := (hgrow.cell_far ⟨w.heap.size + 1 + 1, 2, none⟩ HZ4.out HB3.out.2.1).trans d72'
   have k7f := (hgrow.frozen_far ⟨w.heap.size + 1 + 1, 2, none⟩ HZ4.out HB3.out.2.1).trans (((below1 w3 _).frozen (p := ⟨w.heap.size + 1 + 1, 2, none⟩) z7').trans (d7f 2))
   have HX5 := tuck (hold2_grown HX4.out hgrow ⟨HB3.out.2.2.1, HB3.out.2.2.2.1⟩)
   refine hK.out _ _ (ph_end (by kernel_rfl) (HX5.out)) ?_
   clear hK K
   try simp only [pts]
   refine AnyTwo.tk HT12 (i := 10) (oi := ⟨some 27, _, _, _, _, _⟩) rfl (ph_end (by kernel_rfl) HX5.out) ?_
   try simp only [pts]
   refine AnyTwo.step (i := 11) (o := ⟨none, _, _, _, _, _⟩) (by kernel_rfl) rfl (fun K hK => ?_)
   go_simp
   refine hK.out _ _ (ph_end (by kernel_rfl) (hold2_set HX5.out (p := ⟨w.heap.size + 1 + 1, 2, none⟩) (show w.heap.size + 1 + 1 ≠ w.heap.size by omega) (Ne.symm HB3.out.1))) ?_
   clear hK K
   try simp only [pts]
   refine AnyTwo.done (by kernel_rfl) ?_ _
   have HZ3 : Hid (wr.heap.size ≤ w3.heap.size) := HBD.out.size
   clear d70 d71 d72 d7f z7' d72' hS1 HT12 k70 k7f
   go_wp2_with fail
   go_roundw
   case rel =>
    have hz3 := HZ3.out
    have hdr : wr.drew.heap.size = wr.heap.size := rfl
    have hb4 : Below wr.heap.size wr (w3.alloc (.cells #[.int .i64 T.kind, .int .i64 T.num, .slice ta T.kids.length tc] 25)) := bAfter HBD.out (below1 _ _)
    have hlt := HRG.out.lt
    have hflt := HRG.out.flt
    refine ⟨q + 1, .slice (some ⟨gg, 0, none⟩) (q + 1) gcap, F ++ F2, by omega, by go_num, ?_, ?_, ?_, ?_, ?_⟩
    ·exact ((bAfter HB.out hb4).grown hgrow (bAfter HB.out hb4).size (fun g hg => by have := (hlt g hg).1; omega)).setCell (by show w.heap.size ≤ w.heap.size + 1 + 1; omega) _
    ·exact ((HY3.out.below hb4).grown hgrow HB3.out.2.2.1).far (by show w.heap.size ≠ w.heap.size + 1 + 1; omega) _
    ·exact ((HY6.out.below hb4).grown hgrow HB3.out.2.2.2.2).far (by show w.heap.size + 1 ≠ w.heap.size + 1 + 1; omega) _
    ·exact ((HY7.out.below hb4).grown hgrow HB3.out.2.1).set2
    ·rw [HTK.out]
     refine (HPUSH.out _ _ F2 w4 T HS3.out HN3.out (fun g hg => ?_) hown4 hgrow (hat.imp (fun h => h.symm) (fun h => by rw [h]; simp [Value.ownBlock]))).setCell (by show w.heap.size + 1 + 1 < w.heap.size + 1 + 1 + 1; omega) _
     have h1 := HF3.out g hg
     refine ⟨by omega, by simp; omega, fun hf => by have := (hflt g hf).2.1; omega, fun e => by have := (hlt g e).2; omega⟩
   case measure => simp [intOf]; omega
  ·have hge2 : ¬ ((q : Int) < (l.length : Int)) := by omega
   have e : q = l.length := by omega
   subst e
   obtain ⟨z6, c60, c61, c62, c6f⟩ := HY6.out.facts
   have hrg := HRG.out
   rw [List.take_length] at hrg
   have HRGE := tuck hrg
   clear hrg
   go_wp2_with fail
   refine bodyPost_ret (v := .agg #[.int .i64 k, .int .i64 n, .slice va l.length vc]) (by simp [results, Tryz.results17, go_sem, *]) rfl (HPOST.out _ _ F ?_ ?_ ?_)
   ·exact bSet3 HB.out (by omega) _ _ _ _ _ _
   ·rw [size_set3]
    have := HY7.out.facts.1
    omega
   ·exact ((HRGE.out.setCell (by show w.heap.size + 1 < _; omega) _).setCell (by show w.heap.size + 1 < _; omega) _).setCell (by show w.heap.size + 1 < _; omega) _
end Go.Proofs.YtlbikgnanabjgaaGreat
