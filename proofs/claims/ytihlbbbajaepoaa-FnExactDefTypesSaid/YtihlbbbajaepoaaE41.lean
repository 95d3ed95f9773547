/-
  TeleK.
-/
import Derived.Test.YtihlbbbajaepoaaE06
import Derived.Test.YtihlbbbajaepoaaE11
import Derived.Test.YtihlbbbajaepoaaE12
import Derived.Test.YtihlbbbajaepoaaE17
import Derived.Test.YtihlbbbajaepoaaE21
namespace Go.Proofs.Ytihlbbbajaepoaa
open Go.RowKit
def TlMade (w : World) (l : List Tm) (e : Ending) (w' : World) : Prop := Below w.heap.size w w' ∧ ∃ (a : Option Addr) (c : Nat) (F : List Nat), e = .returned (.slice a l.length c) ∧ SlOwn w' l (.slice a l.length c) F ∧ F.Nodup ∧ ∀ g ∈ F, w.heap.size ≤ g ∧ g < w'.heap.size
set_option maxRecDepth 100000 in
set_option maxHeartbeats 2000000 in
theorem cloneL_any (l : List Tm) (hsz : ∀ x ∈ l, sizes x.kids ≤ 1000000) (hl4 : l.length ≤ 1000000) (w : World) (v : Value) (hin : SlIn w 0 l v) :
  Calls Try.prog 51 #[v] w (TlMade w l) := by
 obtain ⟨a, cap, bb, o, rfl, hl, hp, hc⟩ := hin.open
 clear hin
 have HPOST : Hid (∀ w' a c F, Below w.heap.size w w' → SlOwn w' l (.slice a l.length c) F → F.Nodup → (∀ g ∈ F, w.heap.size ≤ g ∧ g < w'.heap.size) → TlMade w l (.returned (.slice a l.length c)) w') := fun w' a c F a1 a2 a3 a4 => ⟨a1, a, c, F, rfl, a2, a3, a4⟩
 generalize TlMade w l = post at *
 have HP := tuck hp
 have HC := tuck hc
 have HSZ := tuck hsz
 clear hp hc hsz
 obtain ⟨i0, hi, hz0, hz1', hz2⟩ := info_parts info_term'
 have hmk : ∀ W : World, (Instr.makeSlice 28 (.int .i64 (l.length : Int)) (.int .i64 (l.length : Int))).run Try.prog W = .ok (.slice (some ⟨W.heap.size, 0, none⟩) l.length l.length) (W.alloc (.cells (madeCells #[.int .i64 0, .int .i64 0, .slice none 0 0] (l.length * 3)) 30)) := fun W => by
  have h := run_make (P := Try.prog) W 28 30 i0 _ Try.underlying28 hi hz0 .i64 .i64 (l.length : Int) (l.length : Int) (by omega) (Int.le_refl _) (by rw [hz2]; omega) (by omega)
  rw [hz1'] at h
  simpa [Value.cells] using h
 clear hi hz0 hz1' hz2
 have HB2 := tuck (below1 w (.cells (madeCells #[.int .i64 0, .int .i64 0, .slice none 0 0] (l.length * 3)) 30))
 have HR2 := tuck (heap_new w (.cells (madeCells #[.int .i64 0, .int .i64 0, .slice none 0 0] (l.length * 3)) 30))
 go_enter Try.func51, Try.ntmps51
 go_wp2_with fail
 generalize w.alloc (.cells (madeCells #[.int .i64 0, .int .i64 0, .slice none 0 0] (l.length * 3)) 30) = W2 at *
 clear hmk
 go_loopw [11] (fun i wr => ∃ (q : Nat) (F : List Nat), q ≤ l.length ∧ i = .int .i64 q ∧ Below w.heap.size w wr ∧
   (∃ cs : Array Value, wr.heap[w.heap.size]? = some (.cells cs 30 (0, 0)) ∧ cs.size = l.length * 3) ∧ RowOwn wr (l.take q) w.heap.size 0 F ∧ F.Nodup ∧ ∀ x ∈ F, w.heap.size < x ∧ x < wr.heap.size) (fun i _ => l.length - (intOf i).toNat)
 case atStart => exact ⟨0, [], Nat.zero_le _, rfl, HB2.out, ⟨_, HR2.out, size_madeCells _ _⟩, by rw [List.take_zero, RowOwn], List.nodup_nil, fun x h => by cases h⟩
 case round =>
  obtain ⟨q, F, hq, rfl, hb, ⟨cs, hcs, hcz⟩, hro, hnd, hF⟩ := hrel
  have HB := tuck hb
  have HCS := tuck hcs
  have HRO := tuck hro
  have HND := tuck hnd
  have HF := tuck hF
  clear hb hcs hro hnd hF
  by_cases hlt : q < l.length
  ·have hlti : ((q : Int) < (l.length : Int)) := by omega
   have hqi : (0 : Int) ≤ (q : Int) := by omega
   have hzr4 := (block_of_cells HCS.out).1
   have HTAKE1 : Hid (l.take (q + 1) = l.take q ++ [l[q]]) := List.take_succ_eq_append_getElem hlt
   obtain ⟨rfl, _, hbw⟩ := HP.out (by intro e; rw [e] at hlt; simp at hlt)
   obtain ⟨s, c0, c1, c2, hs⟩ := HC.out q hlt
   obtain ⟨sa, sc, rfl⟩ := hs.form
   replace c0 := (HB.out.cell (p := ⟨bb, o + q * 3, none⟩) hbw).trans c0
   replace c1 := (HB.out.cell (p := ⟨bb, o + q * 3 + 1, none⟩) hbw).trans c1
   replace c2 := (HB.out.cell (p := ⟨bb, o + q * 3 + 2, none⟩) hbw).trans c2
   have HS := tuck hs
   have HCALL : Hid (∀ w1, Below w.heap.size w w1 → Calls Try.prog 55 #[.agg #[.int .i64 l[q].kind, .int .i64 l[q].num, .slice sa l[q].kids.length sc]] w1 (MadePost w1 l[q])) := fun w1 h1 => by
    have := cloneI_any l[q].kids l[q].kind l[q].num w1 _ (HSZ.out _ (List.getElem_mem hlt)) (HS.out.below h1)
    rwa [Tm.eta] at this
   clear hs
   generalize l[q] = x at *
   have hbk := below1 wr (.cells #[.int .i64 x.kind, .int .i64 x.num, .slice sa x.kids.length sc] 30)
   have HBK := tuck (bAfter HB.out hbk)
   have HCSK := tuck ((hbk.block _ hzr4).trans HCS.out)
   have HROK := tuck (HRO.out.keep (fun i _ => hbk.cell (p := ⟨w.heap.size, 0 + i, none⟩) hzr4) (fun y hy => SameAt.of_block (hbk.block y (HF.out y hy).2)))
   have HFK : Hid (∀ y ∈ F, w.heap.size < y ∧ y < (wr.alloc (.cells #[.int .i64 x.kind, .int .i64 x.num, .slice sa x.kids.length sc] 30)).heap.size) := tuck fun y hy => ⟨(HF.out y hy).1, Nat.lt_of_lt_of_le (HF.out y hy).2 hbk.size⟩
   have hzrk : w.heap.size < (wr.alloc (.cells #[.int .i64 x.kind, .int .i64 x.num, .slice sa x.kids.length sc] 30)).heap.size := Nat.lt_of_lt_of_le hzr4 hbk.size
   clear hbk HB HRO HF
   go_wp2_with fail
   clear c0 c1 c2 HCS hzr4
   generalize wr.alloc (.cells #[.int .i64 x.kind, .int .i64 x.num, .slice sa x.kids.length sc] 30) = WK at *
   refine (HCALL.out _ HBK.out).mono ?_
   rintro e w3 ⟨hb3, tv, rfl, sv, F2, rfl, hs2, hnd2, hF2⟩
   obtain ⟨sva, svc, rfl⟩ := hs2.form
   have hc3 := (hb3.block w.heap.size hzrk).trans HCSK.out
   have HC3 := tuck hc3
   have c30 := ((block_of_cells hc3).2.1 (q * 3)).trans (Array.getElem?_eq_getElem (by omega))
   have c31 := ((block_of_cells hc3).2.1 (q * 3 + 1)).trans (Array.getElem?_eq_getElem (by omega))
   have c32 := ((block_of_cells hc3).2.1 (q * 3 + 2)).trans (Array.getElem?_eq_getElem (by omega))
   have c3f := (block_of_cells hc3).2.2
   have HIN := tuck hs2
   have HN2 := tuck hnd2
   have HF2 := tuck hF2
   have HB' := tuck hb3
   clear hs2 hnd2 hF2 hb3 hc3
   go_wp2_with fail
   go_roundw
   case rel =>
    have hRF : w.heap.size ∉ F := fun h => by have := (HFK.out _ h).1; omega
    have hRF2 : w.heap.size ∉ F2 := fun h => by have := (HF2.out _ h).1; omega
    have hro3 : RowOwn w3 (l.take q) w.heap.size 0 F := HROK.out.keep (fun i _ => HB'.out.cell (p := ⟨w.heap.size, 0 + i, none⟩) hzrk) (fun y hy => SameAt.of_block (HB'.out.block y (HFK.out y hy).2))
    obtain ⟨hp1, hp2⟩ := row_put HC3.out hlt hcz hro3 HIN.out hRF hRF2
    refine ⟨q + 1, F ++ F2, by omega, by go_num, bSet3 (bAfter HBK.out HB'.out) (Nat.le_refl _) _ _ _ _ _ _, hp1, by rw [HTAKE1.out]; exact hp2, ?_, fun y hy => ?_⟩
    ·refine List.nodup_append.2 ⟨HND.out, HN2.out, fun a ha b hb e => ?_⟩
     have := (HFK.out a ha).2
     have := (HF2.out b hb).1
     omega
    ·rw [size_set3]
     have hz := HB'.out.size
     rcases List.mem_append.1 hy with hy | hy
     ·have := HFK.out y hy
      omega
     ·have := HF2.out y hy
      omega
   case measure => simp [intOf]; omega
  ·have hge2 : ¬ ((q : Int) < (l.length : Int)) := by omega
   have hr2 := HRO.out
   rw [List.take_of_length_le (by omega)] at hr2
   have HR := tuck hr2
   clear hr2
   go_wp2_with fail
   by_cases hl0 : l.length = 0
   ·have hl' : l = [] := List.length_eq_zero_iff.1 hl0
    subst hl'
    exact HPOST.out _ _ _ [] HB.out (SlOwn.nil _ _ _) List.nodup_nil (fun g h => by cases h)
   ·obtain ⟨hz, -, hfz⟩ := block_of_cells HCS.out
    refine HPOST.out _ _ _ (w.heap.size :: F) HB.out ⟨_, _, w.heap.size, F, rfl, hl, Or.inr ⟨rfl, rfl, hfz⟩, fun _ => HR.out⟩ (List.nodup_cons.2 ⟨fun h => by have := (HF.out _ h).1; omega, HND.out⟩) (fun g hg => ?_)
    rcases List.mem_cons.1 hg with rfl | hg
    ·exact ⟨Nat.le_refl _, hz⟩
    ·exact ⟨Nat.le_of_lt (HF.out g hg).1, (HF.out g hg).2⟩
end Go.Proofs.Ytihlbbbajaepoaa
