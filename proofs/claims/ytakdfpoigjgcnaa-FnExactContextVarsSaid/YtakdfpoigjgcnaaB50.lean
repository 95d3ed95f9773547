/-
  TeleV.
-/
import Derived.Test.YtakdfpoigjgcnaaB37
import Derived.Test.YtakdfpoigjgcnaaB41
namespace Go.Proofs.Ytakdfpoigjgcnaa
open Go.RowKit
def vars (n : Nat) : List Tm := (List.range n).map fun (i : Nat) => Tm.mk 1 ((n : Int) - 1 - (i : Int)) []
theorem vars_length (n : Nat) : (vars n).length = n := by simp [vars]
theorem vars_get {n i : Nat} (h : i < n) : (vars n)[i]'(by rw [vars_length]; exact h) = .mk 1 ((n : Int) - 1 - (i : Int)) [] := by simp [vars]
theorem vars_sizes {n : Nat} (h : n ≤ 8) : sizes (vars n) ≤ 1000000 := by
 have : ∀ l : List Nat, sizes (l.map fun (i : Nat) => Tm.mk 1 ((n : Int) - 1 - (i : Int)) []) = l.length := fun l => by
  induction l with
  | nil => simp [sizes]
  | cons a l ih => rw [List.map_cons, sizes, ih, List.length_cons, Tm.size, sizes]; omega
 unfold vars
 rw [this, List.length_range]
 omega
def CvOk (n : Int) : Prop := 0 ≤ n ∧ n ≤ 8
def CvPost (w : World) (l : List Tm) (b : Bool) (e : Ending) (w' : World) : Prop := Below w.heap.size w w' ∧ ∃ (a : Option Addr) (c : Nat) (F : List Nat), e = .returned (.tuple #[.slice a l.length c, .bool b]) ∧ SlOwn w' l (.slice a l.length c) F ∧ F.Nodup ∧ ∀ g ∈ F, w.heap.size ≤ g ∧ g < w'.heap.size
def CvPostS (w : World) (l : List Tm) (b : Bool) (e : Ending) (w' : World) : Prop := Below w.heap.size w w' ∧ ∃ (a : Option Addr) (c : Nat), e = .returned (.tuple #[.slice a l.length c, .bool b]) ∧ SlIn w' w.heap.size l (.slice a l.length c)
set_option maxRecDepth 100000 in
set_option maxHeartbeats 2000000 in
theorem varsI_any (n : Int) (w : World) : Calls Try.prog 33 #[.int .i64 n] w (CvPost w (orNil (CvOk n) (vars n.toNat)) (tr (CvOk n))) := by
 by_cases hn : CvOk n
 rotate_left
 ·have h0 : orNil (CvOk n) (vars n.toNat) = [] := by unfold orNil; rw [if_neg hn]
  rw [h0, tr_not hn]
  have hc : n < 0 ∨ (¬ n < 0 ∧ 8 < n) := by unfold CvOk at hn; omega
  clear hn h0
  go_enter Try.func33, Try.ntmps33
  rcases hc with h | ⟨h, h'⟩
  ·go_wp2
   refine bodyPost_ret (v := .tuple #[.slice none 0 0, .bool false]) (by simp [results, Try.results33, go_sem, *]) rfl ?_
   exact ⟨Below.refl _ _, none, 0, [], rfl, SlOwn.nil _ _ _, List.nodup_nil, fun g h => by cases h⟩
  ·go_wp2
   refine bodyPost_ret (v := .tuple #[.slice none 0 0, .bool false]) (by simp [results, Try.results33, go_sem, *]) rfl ?_
   exact ⟨Below.refl _ _, none, 0, [], rfl, SlOwn.nil _ _ _, List.nodup_nil, fun g h => by cases h⟩
 have h0 : orNil (CvOk n) (vars n.toNat) = vars n.toNat := by unfold orNil; rw [if_pos hn]
 rw [h0, tr_of hn]
 obtain ⟨hn0, hn8⟩ := hn
 obtain ⟨m, hm⟩ : ∃ m : Nat, n = (m : Int) := ⟨n.toNat, by omega⟩
 subst hm
 rw [Int.toNat_natCast]
 have hm8 : m ≤ 8 := by omega
 have hlt0 : ¬ (m : Int) < 0 := by omega
 have hlt8 : ¬ (8 : Int) < (m : Int) := by omega
 have HPOST : Hid (∀ w' a c F, Below w.heap.size w w' → SlOwn w' (vars m) (.slice a m c) F → F.Nodup → (∀ g ∈ F, w.heap.size ≤ g ∧ g < w'.heap.size) → CvPost w (vars m) true (.returned (.tuple #[.slice a m c, .bool true])) w') := tuck fun w' a c F a1 a2 a3 a4 => ⟨a1, a, c, F, by rw [vars_length], by rw [vars_length]; exact a2, a3, a4⟩
 generalize CvPost w (vars m) true = post at *
 obtain ⟨i0, hi, hz0, hz1', hz2⟩ := info_parts info_term'
 have hmk : ∀ W : World, (Instr.makeSlice 27 (.int .i64 (m : Int)) (.int .i64 (m : Int))).run Try.prog W = .ok (.slice (some ⟨W.heap.size, 0, none⟩) m m) (W.alloc (.cells (madeCells #[.int .i64 0, .int .i64 0, .slice none 0 0] (m * 3)) 29)) := fun W => by
  have h := run_make (P := Try.prog) W 27 29 i0 _ Try.underlying27 hi hz0 .i64 .i64 (m : Int) (m : Int) (by omega) (Int.le_refl _) (by rw [hz2]; omega) (by omega)
  rw [hz1'] at h
  simpa [Value.cells] using h
 clear hi hz0 hz1' hz2 h0 hn0 hn8
 have HB2 := tuck (below1 w (.cells (madeCells #[.int .i64 0, .int .i64 0, .slice none 0 0] (m * 3)) 29))
 have HR2 := tuck (heap_new w (.cells (madeCells #[.int .i64 0, .int .i64 0, .slice none 0 0] (m * 3)) 29))
 go_enter Try.func33, Try.ntmps33
 go_wp2_with fail
 generalize w.alloc (.cells (madeCells #[.int .i64 0, .int .i64 0, .slice none 0 0] (m * 3)) 29) = W2 at *
 clear hmk
 have hvl := vars_length m
 go_loopw [16] (fun i wr => ∃ (q : Nat), q ≤ m ∧ i = .int .i64 q ∧ Below w.heap.size w wr ∧
   (∃ cs : Array Value, wr.heap[w.heap.size]? = some (.cells cs 29 (0, 0)) ∧ cs.size = (vars m).length * 3) ∧ RowOwn wr ((vars m).take q) w.heap.size 0 []) (fun i _ => m - (intOf i).toNat)
 case atStart => exact ⟨0, Nat.zero_le _, rfl, HB2.out, ⟨_, HR2.out, by rw [hvl]; exact size_madeCells _ _⟩, by rw [List.take_zero, RowOwn]⟩
 case round =>
  obtain ⟨q, hq, rfl, hb, ⟨cs, hcs, hcz⟩, hro⟩ := hrel
  have HB := tuck hb
  have HCS := tuck hcs
  have HRO := tuck hro
  clear hb hro
  by_cases hlt : q < m
  ·have hlti : ((q : Int) < (m : Int)) := by omega
   have hqi : (0 : Int) ≤ (q : Int) := by omega
   have HTAKE1 : Hid ((vars m).take (q + 1) = (vars m).take q ++ [.mk 1 ((m : Int) - 1 - (q : Int)) []]) := tuck (by rw [List.take_succ_eq_append_getElem (by rw [hvl]; exact hlt), vars_get hlt])
   obtain ⟨hz, hcell, hfz⟩ := block_of_cells hcs
   have c30 := (hcell (q * 3)).trans (Array.getElem?_eq_getElem (by omega))
   have c31 := (hcell (q * 3 + 1)).trans (Array.getElem?_eq_getElem (by omega))
   have c32 := (hcell (q * 3 + 2)).trans (Array.getElem?_eq_getElem (by omega))
   clear hcs hcell
   go_wp2_with fail
   go_roundw
   case rel =>
    obtain ⟨hp1, hp2⟩ := row_put (x := Tm.mk 1 ((m : Int) - 1 - (q : Int)) []) (s := .slice none 0 0) HCS.out (by rw [hvl]; exact hlt) hcz HRO.out (SlOwn.nil _ _ _) (by simp) (by simp)
    exact ⟨q + 1, by omega, by go_num, bSet3 HB.out (Nat.le_refl _) _ _ _ _ _ _, hp1, by rw [HTAKE1.out]; exact hp2⟩
   case measure => simp [intOf]; omega
  ·have hge2 : ¬ ((q : Int) < (m : Int)) := by omega
   have hr2 := HRO.out
   rw [List.take_of_length_le (by rw [hvl]; omega)] at hr2
   have HR := tuck hr2
   clear hr2 hcs
   go_wp2_with fail
   by_cases hl0 : m = 0
   ·have hl' : vars m = [] := List.length_eq_zero_iff.1 (by rw [hvl]; exact hl0)
    refine HPOST.out _ _ _ [] HB.out ?_ List.nodup_nil (fun g h => by cases h)
    rw [hl', hl0]
    exact SlOwn.nil _ _ _
   ·obtain ⟨hz, -, hfz⟩ := block_of_cells HCS.out
    refine HPOST.out _ _ _ [w.heap.size] HB.out ⟨_, _, w.heap.size, [], by rw [hvl], by rw [hvl]; unfold maxLen; omega, Or.inr ⟨rfl, rfl, hfz⟩, fun _ => HR.out⟩ (by simp) (fun g hg => ?_)
    simp at hg
    omega
set_option maxRecDepth 100000 in
set_option maxHeartbeats 2000000 in
theorem varsS_any (n : Int) (w : World) : Calls Try.prog 32 #[.int .i64 n] w (CvPostS w (orNil (CvOk n) (vars n.toNat)) (tr (CvOk n))) := by
 have HB0 := tuck (below1 w (.cells #[] 29))
 have HR0 := tuck (rowT_made w w.heap.size (Nat.le_refl _))
 by_cases hn : CvOk n
 rotate_left
 ·have h0 : orNil (CvOk n) (vars n.toNat) = [] := by unfold orNil; rw [if_neg hn]
  rw [h0, tr_not hn]
  have hc : n < 0 ∨ (¬ n < 0 ∧ 8 < n) := by unfold CvOk at hn; omega
  clear hn h0
  go_enter Try.func32, Try.ntmps32
  rcases hc with h | ⟨h, h'⟩
  ·go_wp2
   refine bodyPost_ret (v := .tuple #[.slice (some ⟨w.heap.size, 0, none⟩) 0 0, .bool false]) (by simp [results, Try.results32, go_sem, *]) rfl ?_
   exact ⟨HB0.out, _, 0, rfl, SlIn.nil _ _ _ _⟩
  ·go_wp2
   refine bodyPost_ret (v := .tuple #[.slice (some ⟨w.heap.size, 0, none⟩) 0 0, .bool false]) (by simp [results, Try.results32, go_sem, *]) rfl ?_
   exact ⟨HB0.out, _, 0, rfl, SlIn.nil _ _ _ _⟩
 have h0 : orNil (CvOk n) (vars n.toNat) = vars n.toNat := by unfold orNil; rw [if_pos hn]
 rw [h0, tr_of hn]
 obtain ⟨hn0, hn8⟩ := hn
 obtain ⟨m, hm⟩ : ∃ m : Nat, n = (m : Int) := ⟨n.toNat, by omega⟩
 subst hm
 rw [Int.toNat_natCast]
 have hm8 : m ≤ 8 := by omega
 have hlt0 : ¬ (m : Int) < 0 := by omega
 have hlt8 : ¬ (8 : Int) < (m : Int) := by omega
 clear h0 hn0 hn8
 go_enter Try.func32, Try.ntmps32
 go_wp2_with fail
 generalize w.alloc (.cells #[] 29) = W0 at *
 go_loopw [5, 4] (fun i out wr => ∃ (q : Nat) (vl : Value), q ≤ m ∧ i = .int .i64 ((m : Int) - 1 - (q : Int)) ∧ out = vl ∧ Below w.heap.size w wr ∧ RowT 0 w.heap.size ((vars m).take q) vl wr) (fun i _ _ => (intOf i + 1).toNat)
 case atStart => exact ⟨0, _, Nat.zero_le _, by first | rfl | (congr 1; omega) | (simp [go_sem]; omega), rfl, HB0.out, HR0.out⟩
 case round =>
  obtain ⟨q, vl, hq, rfl, rfl, hb, hrow⟩ := hrel
  have hlen : ((vars m).take q).length = q := by rw [List.length_take, vars_length]; omega
  obtain ⟨va, vc, rfl⟩ := hrow.form' hlen
  have HLEN := tuck hlen
  have HB := tuck hb
  have HROW := tuck hrow
  clear hb hrow hlen
  by_cases hlt : q < m
  rotate_left
  ·have hneg : ¬ (0 : Int) ≤ (m : Int) - 1 - (q : Int) := by omega
   have hqm : q = m := by omega
   have hd := (HROW.out.done' HLEN.out (by unfold maxLen; omega))
   rw [List.take_of_length_le (by rw [vars_length]; omega)] at hd
   have HD := tuck (tl_from (hd.less fun i hi => ⟨Nat.zero_le _, hi⟩))
   clear hd
   go_wp2_with fail
   refine bodyPost_ret (v := .tuple #[.slice va q vc, .bool true]) (by simp [results, Try.results32, go_sem, *]) rfl ?_
   refine ⟨HB.out, va, vc, ?_, ?_⟩
   ·rw [vars_length, hqm]
   ·rw [vars_length]; have := HD.out; rwa [hqm] at this
  have hpos : (0 : Int) ≤ (m : Int) - 1 - (q : Int) := by omega
  have HTAKE1 : Hid ((vars m).take (q + 1) = (vars m).take q ++ [.mk 1 ((m : Int) - 1 - (q : Int)) []]) := tuck (by rw [List.take_succ_eq_append_getElem (by rw [vars_length]; exact hlt), vars_get hlt])
  obtain ⟨r, hr⟩ : ∃ r : Int, r = (m : Int) - 1 - (q : Int) := ⟨_, rfl⟩
  rw [← hr] at hpos HTAKE1 ⊢
  obtain ⟨i0, hi0, hz0, hz1, hz2'⟩ := info_parts info_termG
  have HI0 := tuck hi0
  have HI1 := tuck hz0
  have HI2 := tuck hz1
  have HI3 := tuck hz2'
  have HRQ := tuck hr
  have hr8 : r ≤ 8 := by omega
  clear hi0 hz0 hz1 hz2' hr
  go_wp2_with fail
  refine (leaf_any 1 r wr).mono ?_
  rintro e w3 ⟨rfl, hb3⟩
  have hbk := bAfter hb3 (below1 w3 (.cells #[.int .i64 1, .int .i64 r, .slice none 0 0] 29))
  have HBK := tuck hbk
  have HRK := tuck (HROW.out.below hbk)
  obtain ⟨xs, hox, hpush⟩ := HRK.out.grow HLEN.out
  have HOX := tuck hox
  have HPUSH := tuck hpush
  have HLT := tuck HROW.out.lt
  have hq4 : q + 1 ≤ maxLen := by unfold maxLen; omega
  have hqb : (q + 1) * 40 ≤ 140737488355328 := by omega
  have HWB : Hid (w.heap.size ≤ w3.heap.size) := tuck (Nat.le_trans HB.out.size hb3.size)
  clear hox hpush hbk hb3
  go_wp2_with (at_builtin; refine wpList_append_lies _ rfl _ _ _ rfl w.heap.size 29 i0 _ 3 40 Try.underlying27 HI0.out HI1.out HI2.out HI3.out rfl (by omega) _ _ _ rfl HOX.out ⟨w3.heap.size, 0, none⟩ 1 1 [.int .i64 1, .int .i64 r, .slice none 0 0] rfl rfl ?news ?one (by omega) hq4 hqb ?base (w3.heap.size + 1) ?size ?next)
  case news => exact World.news_of_block (cs := #[.int .i64 1, .int .i64 r, .slice none 0 0]) (t := 29) (fr := (0, 0)) (heap_new w3 _)
  case one => simp [Value.oneCell']
  case base => have := HWB.out; simp; omega
  case size => simp
  case next =>
   intro gg gcap w4 hown4 hgrow hat hlt4
   have HGR := tuck hgrow
   have HOWN := tuck hown4
   have HAT := tuck hat
   clear hgrow hown4 hat
   go_wp2_with fail
   go_roundw
   case rel =>
    have hr := HRQ.out
    refine ⟨q + 1, .slice (some ⟨gg, 0, none⟩) (q + 1) gcap, by omega, by congr 1; push_cast; omega, rfl, ?_, ?_⟩
    ·exact (bAfter HB.out HBK.out).grown HGR.out (bAfter HB.out HBK.out).size (fun g hg => (HLT.out g hg).1)
    ·rw [HTAKE1.out]
     exact HPUSH.out _ _ w4 (.mk 1 r []) (SlX.nil _ _ _ _) HOWN.out HGR.out (HAT.out.imp (fun h => h.symm) (fun h => by rw [h]; simp [Value.ownBlock]))
   case measure => simp [intOf]; try omega
theorem cv_sizes (n : Int) : sizes (orNil (CvOk n) (vars n.toNat)) ≤ 1000000 := orNil_sizes fun h => vars_sizes (by have := h.1; have := h.2; omega)
end Go.Proofs.Ytakdfpoigjgcnaa
