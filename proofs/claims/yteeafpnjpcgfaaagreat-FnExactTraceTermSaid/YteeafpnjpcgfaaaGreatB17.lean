/-
  ToOwn.
-/
import Derived.Test.YteeafpnjpcgfaaaGreatB07
import Derived.Test.YteeafpnjpcgfaaaGreatB16
namespace Go.Proofs.YteeafpnjpcgfaaaGreat
open Go.RowKit
def ToOwn (w : World) (l : List Tm) (e : Ending) (w' : World) : Prop := ∃ v F, e = .returned v ∧ SlOwn w' l v F ∧ F.Nodup ∧ (∀ g ∈ F, w.heap.size ≤ g ∧ g < w'.heap.size) ∧ Below w.heap.size w w'
def ToOwnT (w : World) (t : Tm) (e : Ending) (w' : World) : Prop := Below w.heap.size w w' ∧ ∃ v, e = .returned v ∧ Made w.heap.size t v w'
theorem toTo_of {t : Tm} (hk : ∀ (w : World) (v : Value), SlIn w 0 t.kids v → Calls Tryz.prog 32 #[v] w (ToOwn w t.kids)) :
  ∀ (w : World) (v : Value), TmIn w 0 t v → Calls Tryz.prog 10 #[v] w (ToOwnT w t) := by
 rintro w v ⟨s, rfl, h1⟩
 have HP : Hid (∀ (w' : World) (s' : Value) (F : List Nat), SlOwn w' t.kids s' F → F.Nodup → (∀ g ∈ F, w.heap.size ≤ g ∧ g < w'.heap.size) → Below w.heap.size w w' → ToOwnT w t (.returned (.agg #[.int .i64 t.kind, .int .i64 t.num, s'])) w') := fun w' s' F h h1 h2 hb => ⟨hb, _, rfl, s', F, rfl, h, h1, h2⟩
 generalize ToOwnT w t = post at *
 generalize t.kind = k1 at *
 generalize t.num = n1 at *
 have HK := tuck hk
 have H1 := tuck h1
 clear hk h1
 go_enter Tryz.func10, Tryz.ntmps10
 go_wp2_with (go_at_call 32; refine (HK.out _ _ (H1.out.below (below3 _ _ _ _))).mono ?_; rintro e w' ⟨v, F, rfl, hin, hnd, hFb, hb⟩; obtain ⟨a, cap, rfl⟩ := hin.form; obtain ⟨hc, hf⟩ := old_cells hb; have hz : w.heap.size + 3 ≤ w'.heap.size := (by have := hb.size; simp at this; omega); have HI := tuck hin; have HND := tuck hnd; have HFB := tuck hFb; have HB := tuck hb; clear hin hb hnd hFb)
 have hb := bAfter (below3 _ _ _ _) HB.out
 have hlo : ∀ g ∈ F, w.heap.size + 1 + 1 + 1 ≤ g ∧ g < w'.heap.size := fun g hg => by have := HFB.out g hg; simp at this; omega
 refine bodyPost_ret (v := .agg #[.int .i64 k1, .int .i64 n1, .slice a t.kids.length cap]) (by simp [results, Tryz.results10, go_sem, hc]) rfl (HP.out _ _ F ?_ HND.out (fun g hg => ?_) ?_)
 ·exact (((HI.out.setCell (fun h => by have := (hlo _ h).1; dsimp only at this; omega) _).setCell (fun h => by have := (hlo _ h).1; dsimp only at this; omega) _).setCell (fun h => by have := (hlo _ h).1; dsimp only at this; omega) _).setCell (fun h => by have := (hlo _ h).1; dsimp only at this; omega) _
 ·have := hlo g hg
  simp only [World.setCell, Array.size_modify]
  omega
 ·exact (((hb.setCell (by simp; omega) _).setCell (by simp) _).setCell (by simp) _).setCell (by simp) _
set_option maxRecDepth 100000 in
theorem toSo_any : ∀ (l : List Tm) (w : World) (v : Value), sizes l ≤ 1048576 → SlIn w 0 l v → Calls Tryz.prog 32 #[v] w (ToOwn w l) := by
 intro l
 induction l using Tm.ind with
 | h l ih =>
 intro w v hsz hin
 obtain ⟨a, cap, b, o, rfl, hl, hp, hc⟩ := hin.open
 clear hin
 have hls := length_le_sizes l
 have HI := tuck ih
 have HP := tuck hp
 have HC := tuck hc
 have HSZ := tuck hsz
 have hlen : l.length ≤ 1048576 := by omega
 clear ih hp hc hl hls hsz
 obtain ⟨i0, hi, hz0, hz1, hz2⟩ := info_parts info_term
 have hmk : ∀ W : World, (Instr.makeSlice 27 (.int .i64 (l.length : Int)) (.int .i64 (l.length : Int))).run Tryz.prog W = .ok (.slice (some ⟨W.heap.size, 0, none⟩) l.length l.length) (W.alloc (.cells (madeCells #[.int .i64 0, .int .i64 0, .slice none 0 0] (l.length * 3)) 29)) := fun W => by
  have h := run_make (P := Tryz.prog) W 27 29 i0 _ Tryz.underlying27 hi hz0 .i64 .i64 (l.length : Int) (l.length : Int) (by omega) (Int.le_refl _) (by rw [hz2]; omega) (by omega)
  rw [hz1] at h
  simpa [Value.cells] using h
 clear hi hz0 hz1 hz2
 go_enter Tryz.func32, Tryz.ntmps32
 go_wp2
 clear hmk
 go_loopw [4] (fun i wr => ∃ (q : Nat) (F : List Nat), q ≤ l.length ∧ i = .int .i64 q ∧ Below w.heap.size w wr ∧ (∃ cs : Array Value, wr.heap[w.heap.size]? = some (.cells cs 29 (0, 0)) ∧ cs.size = l.length * 3) ∧ RowOwn wr (l.take q) w.heap.size 0 F ∧ F.Nodup ∧ ∀ x ∈ F, w.heap.size < x ∧ x < wr.heap.size) (fun i _ => l.length - (intOf i).toNat)
 case atStart => exact ⟨0, [], Nat.zero_le _, rfl, below1 _ _, ⟨_, heap_new _ _, size_madeCells _ _⟩, by rw [List.take_zero, RowOwn], List.nodup_nil, fun x h => by cases h⟩
 case round =>
  obtain ⟨k, F, hk, rfl, hb, ⟨cs, hcs, hcz⟩, hro, hnd, hF⟩ := hrel
  by_cases hlt : k < l.length
  ·have hlti : ((k : Int) < (l.length : Int)) := by omega
   obtain ⟨rfl, _, hbw⟩ := HP.out (by intro e; rw [e] at hlt; simp at hlt)
   obtain ⟨s, c0, c1, c2, hs⟩ := HC.out k hlt
   replace c0 := (hb.cell (p := ⟨b, o + k * 3, none⟩) hbw).trans c0
   replace c1 := (hb.cell (p := ⟨b, o + k * 3 + 1, none⟩) hbw).trans c1
   replace c2 := (hb.cell (p := ⟨b, o + k * 3 + 2, none⟩) hbw).trans c2
   have HB := tuck hb
   have HCS := tuck hcs
   have HRO := tuck hro
   have HND := tuck hnd
   have HF := tuck hF
   have HS := tuck hs
   have HI' := tuck (HI.out k hlt)
   have HSZ' : Hid (sizes l[k].kids ≤ 1048576) := by have := kids_get_lt l k hlt; have := HSZ.out; show _ ≤ _; omega
   have HTAKE1 : Hid (l.take (k + 1) = l.take k ++ [l[k]]) := List.take_succ_eq_append_getElem hlt
   have hzR := (block_of_cells hcs).1
   clear hb hcs hro hnd hF hs HI
   generalize l[k] = x at *
   go_wp2_with (go_at_call 10; refine (toTo_of (t := x) (fun w v g => HI'.out w v HSZ'.out g) _ _ ⟨s, rfl, HS.out.below HB.out⟩).mono ?_; rintro e w' ⟨hb', v, rfl, s', F2, rfl, hin, hnd2, hF2⟩; obtain ⟨a', cap', rfl⟩ := hin.form; have HC3 := tuck ((hb'.block _ hzR).trans HCS.out); have d0 := ((block_of_cells HC3.out).2.1 (k * 3)).trans (Array.getElem?_eq_getElem (by omega)); have d1 := ((block_of_cells HC3.out).2.1 (k * 3 + 1)).trans (Array.getElem?_eq_getElem (by omega)); have d2 := ((block_of_cells HC3.out).2.1 (k * 3 + 2)).trans (Array.getElem?_eq_getElem (by omega)); have df := (block_of_cells HC3.out).2.2; have HIN := tuck hin; have HN2 := tuck hnd2; have HF2 := tuck hF2; have HB' := tuck hb'; clear hin hnd2 hF2 hb')
   go_roundw
   case rel =>
    have hRF : w.heap.size ∉ F := fun h => by have := (HF.out _ h).1; omega
    have hRF2 : w.heap.size ∉ F2 := fun h => by have := (HF2.out _ h).1; omega
    have hro3 : RowOwn w' (l.take k) w.heap.size 0 F := HRO.out.keep (fun i _ => HB'.out.cell (p := ⟨w.heap.size, 0 + i, none⟩) hzR) (fun y hy => SameAt.of_block (HB'.out.block y (HF.out y hy).2))
    obtain ⟨hp1, hp2⟩ := row_put HC3.out hlt hcz hro3 HIN.out hRF hRF2
    refine ⟨k + 1, F ++ F2, by omega, by go_num, ?_, hp1, by rw [HTAKE1.out]; exact hp2, ?_, fun y hy => ?_⟩
    ·have := bAfter HB.out HB'.out
     exact ((this.setCell (by simp) _).setCell (by simp) _).setCell (by simp) _
    ·refine List.nodup_append.2 ⟨HND.out, HN2.out, fun a ha b hb e => ?_⟩
     have := (HF.out a ha).2
     have := (HF2.out b hb).1
     omega
    ·rw [size_set3]
     have hz := HB'.out.size
     rcases List.mem_append.1 hy with hy | hy
     ·have := HF.out y hy
      omega
     ·have := HF2.out y hy
      omega
   case measure => simp [intOf]; omega
  ·have hge2 : ¬ ((k : Int) < (l.length : Int)) := by omega
   have HB := tuck hb
   have HCS := tuck hcs
   have HRO := tuck hro
   have HND := tuck hnd
   have HF := tuck hF
   clear hb hcs hro hnd hF
   go_wp2
   go_ret
   have e : k = l.length := by omega
   subst e
   have hro := HRO.out
   rw [List.take_length] at hro
   have hzR := (block_of_cells HCS.out).1
   refine ⟨_, w.heap.size :: F, rfl, ⟨some ⟨w.heap.size, 0, none⟩, l.length, w.heap.size, F, rfl, by unfold maxLen; omega, Or.inr ⟨rfl, rfl, (block_of_cells HCS.out).2.2⟩, fun _ => hro⟩, List.nodup_cons.2 ⟨fun h => by have := (HF.out _ h).1; omega, HND.out⟩, fun x hx => ?_, HB.out⟩
   rcases List.mem_cons.1 hx with rfl | hx
   ·exact ⟨Nat.le_refl _, hzR⟩
   ·have := HF.out x hx
    exact ⟨by omega, this.2⟩
theorem toO_any (t : Tm) (w : World) (v : Value) (h0 : sizes t.kids ≤ 1048576) (h : TmIn w 0 t v) : Calls Tryz.prog 10 #[v] w (ToOwnT w t) :=
 toTo_of (fun w v g => toSo_any _ w v h0 g) w v h
end Go.Proofs.YteeafpnjpcgfaaaGreat
