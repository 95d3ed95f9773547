/-
  TeleC.
-/
import Derived.Test.YtkjfdhdmkaofeaaB14
import Derived.Test.YtkjfdhdmkaofeaaB20
import Derived.Test.YtkjfdhdmkaofeaaB24
import Derived.Test.YtkjfdhdmkaofeaaB25
namespace Go.Proofs.Ytkjfdhdmkaofeaa
open Go.RowKit
theorem tl_row {w : World} {X : Nat → Prop} {R cap : Nat} {T : TypeId} {cs : Array Value} {r : List (Tm × Value)} (hb : w.heap[R]? = some (.cells cs T (0, 0))) (hc : cs.toList = cellsL r) (hX : ¬ X R) (hl : r.length ≤ 100000) (hx : ∀ x ∈ r, SlX w X x.1.kids x.2) :
  SlX w X (r.map (·.1)) (.slice (some ⟨R, 0, none⟩) r.length cap) := by
 obtain ⟨b1, b2, -⟩ := block_of_cells hb
 have hr : RowAt (mask w X) 0 (r.map (·.1)) R 0 := by
  refine RowAt.of_list (fun j u hu => mask_cell.2 ⟨hX, ?_⟩) hx
  rw [Nat.zero_add, b2, ← Array.getElem?_toList, hc]
  exact hu
 refine ⟨_, cap, R, 0, ?_, ?_, fun _ => ⟨rfl, Nat.zero_le _⟩, hr⟩
 ·rw [List.length_map]
 ·rw [List.length_map]; unfold maxLen; omega
set_option maxRecDepth 100000 in
theorem checked_any (t : Tm) (w : World) (s : Value) (h : SlIn w 0 t.kids s) : Calls Try.prog 39 #[.agg #[.int .i64 t.kind, .int .i64 t.num, s]] w (ReplPost w t.Valid t) := by
 obtain ⟨ta, tc, rfl⟩ := h.form
 have HS := tuck h
 have hb2 := below2 w (.cells #[.int .i64 t.kind, .int .i64 t.num, .slice ta t.kids.length tc] 25) (.cells #[.int .i64 0, .int .i64 0, .slice none 0 0] 25)
 have HV0 := tuck ((VarAt.new w t.kind t.num (.slice ta t.kids.length tc)).below (below1 _ (.cells #[.int .i64 0, .int .i64 0, .slice none 0 0] 25)))
 have HV1 := tuck (var_new1 w (.cells #[.int .i64 t.kind, .int .i64 t.num, .slice ta t.kids.length tc] 25) 0 0 (.slice none 0 0))
 have hz2 : w.heap.size + 2 ≤ ((w.alloc (.cells #[.int .i64 t.kind, .int .i64 t.num, .slice ta t.kids.length tc] 25)).alloc (.cells #[.int .i64 0, .int .i64 0, .slice none 0 0] 25)).heap.size := by simp
 have HB2 := tuck hb2
 have HZ2 := tuck hz2
 have HNO : Hid (¬ t.Valid → ∀ w', Below w.heap.size w w' → ReplPost w t.Valid t (.returned (.tuple #[.agg #[.int .i64 0, .int .i64 0, .slice none 0 0], .bool false])) w') := tuck fun h w' hb => ReplPost.no h hb
 have HYES : Hid (t.Valid → ∀ w' s F, Below w.heap.size w w' → SlOwn w' t.kids s F → F.Nodup → (∀ g ∈ F, w.heap.size ≤ g ∧ g < w'.heap.size) → ReplPost w t.Valid t (.returned (.tuple #[.agg #[.int .i64 t.kind, .int .i64 t.num, s], .bool true])) w') := tuck fun h w' s F hb hs hn hF => ReplPost.yes h hb hs hn hF
 generalize ReplPost w t.Valid t = post at *
 clear hb2 hz2 h
 go_enter Try.func39, Try.ntmps39
 go_wp2_with fail
 generalize ((w.alloc (.cells #[.int .i64 t.kind, .int .i64 t.num, .slice ta t.kids.length tc] 25)).alloc (.cells #[.int .i64 0, .int .i64 0, .slice none 0 0] 25)) = W0 at *
 refine (validI_any t W0 _ ⟨_, rfl, HS.out.below HB2.out⟩).mono ?_
 rintro e w1 ⟨rfl, hb1⟩
 obtain ⟨z0, a0, a1, a2, -⟩ := (HV0.out.below hb1).facts
 have HVR := tuck (HV1.out.below hb1)
 have HZ := tuck (Nat.le_trans HZ2.out hb1.size)
 have HB := tuck (bAfter HB2.out hb1)
 clear hb1 HV0 HV1 HB2 HZ2
 by_cases hf : t.Valid
 rotate_left
 ·rw [tr_not hf]
  have HN := tuck (HNO.out hf)
  obtain ⟨z1, r0, r1, r2, rf⟩ := HVR.out.facts
  go_wp2_with fail
  refine bodyPost_ret (v := .tuple #[.agg #[.int .i64 0, .int .i64 0, .slice none 0 0], .bool false]) (by simp [results, Try.results39, go_sem, *]) rfl (HN.out _ ?_)
  first | exact bSet3 HB.out (Nat.le_succ _) _ _ _ _ _ _ | exact HB.out
 rw [tr_of hf]
 have HY := tuck (HYES.out hf)
 have hcl := cloneI_any t.kids t.kind t.num w1 _ (by have := (valid_bounds hf).1; omega) (HS.out.below HB.out)
 rw [Tm.eta] at hcl
 have HCL := tuck hcl
 clear hcl hf HNO HYES HS
 go_wp2_with fail
 refine HCL.out.mono ?_
 rintro e w2 ⟨hb2, v, rfl, s2, F, rfl, hs2, hn2, hF2⟩
 obtain ⟨sa, sc, rfl⟩ := hs2.form
 replace HVR := tuck (HVR.out.below hb2)
 replace HB := tuck (bAfter HB.out hb2)
 have HS2 := tuck hs2
 have HN2 := tuck hn2
 have HF2 := tuck hF2
 clear hb2 hs2 hn2 hF2 HCL z0 a0 a1 a2
 obtain ⟨z1, r0, r1, r2, rf⟩ := HVR.out.facts
 go_wp2_with fail
 refine bodyPost_ret (v := .tuple #[.agg #[.int .i64 t.kind, .int .i64 t.num, .slice sa t.kids.length sc], .bool true]) (by simp [results, Try.results39, go_sem, *]) rfl (HY.out _ _ F ?_ ?_ HN2.out ?_)
 ·exact bSet3 HB.out (Nat.le_succ _) _ _ _ _ _ _
 ·exact HS2.out.set3 (fun h => by have := (HF2.out _ h).1; have := HZ.out; omega) _ _ _ _ _ _
 ·intro g hg
  have := HF2.out g hg
  have := HB.out.size
  rw [size_set3]
  have := HZ.out
  omega
set_option maxRecDepth 100000 in
set_option maxHeartbeats 1000000 in
theorem foldL_any (k : Int) (l : List Tm) (t : Tm) (w : World) (v s : Value) (hl : SlIn w 0 l v) (hs : SlIn w 0 t.kids s) :
  Calls Try.prog 19 #[v, .int .i64 k, .agg #[.int .i64 t.kind, .int .i64 t.num, s]] w (ReplPost w (AppsOk k l t) (apps k l t)) := by
 obtain ⟨a, cap, b, o, rfl, hlm, hp, hc⟩ := hl.open
 obtain ⟨ta, tc, rfl⟩ := hs.form
 unfold maxLen at hlm
 have hb2 := below2 w (.cells #[.int .i64 t.kind, .int .i64 t.num, .slice ta t.kids.length tc] 25) (.cells #[.int .i64 0, .int .i64 0, .slice none 0 0] 25)
 have HV0 := tuck ((VarAt.new w t.kind t.num (.slice ta t.kids.length tc)).below (below1 _ (.cells #[.int .i64 0, .int .i64 0, .slice none 0 0] 25)))
 have HV1 := tuck (var_new1 w (.cells #[.int .i64 t.kind, .int .i64 t.num, .slice ta t.kids.length tc] 25) 0 0 (.slice none 0 0))
 have hz2 : w.heap.size + 2 ≤ ((w.alloc (.cells #[.int .i64 t.kind, .int .i64 t.num, .slice ta t.kids.length tc] 25)).alloc (.cells #[.int .i64 0, .int .i64 0, .slice none 0 0] 25)).heap.size := by simp
 have HS0 := tuck hs
 have HP := tuck hp
 have HC := tuck hc
 have HB2 := tuck hb2
 have HZ2 := tuck hz2
 have HNO : Hid (¬ AppsOk k l t → ∀ w', Below w.heap.size w w' → ReplPost w (AppsOk k l t) (apps k l t) (.returned (.tuple #[.agg #[.int .i64 0, .int .i64 0, .slice none 0 0], .bool false])) w') := tuck fun h w' hb => ReplPost.no h hb
 have HYES : Hid (∀ w' s F, Below w.heap.size w w' → SlOwn w' (orZero (AppsOk k l t) (apps k l t)).kids s F → F.Nodup → (∀ g ∈ F, w.heap.size ≤ g ∧ g < w'.heap.size) → ReplPost w (AppsOk k l t) (apps k l t) (.returned (.tuple #[.agg #[.int .i64 (orZero (AppsOk k l t) (apps k l t)).kind, .int .i64 (orZero (AppsOk k l t) (apps k l t)).num, s], .bool (tr (AppsOk k l t))])) w') := tuck fun w' s F hb hs hn hF => ⟨hb, _, rfl, s, F, rfl, hs, hn, hF⟩
 generalize hpost : ReplPost w (AppsOk k l t) (apps k l t) = post at *
 clear hpost hb2 hz2 hl hs hp hc
 go_enter Try.func19, Try.ntmps19
 by_cases h8 : l.length ≤ 8
 rotate_left
 ·have hgt : (8 : Int) < (l.length : Int) := by omega
  have HN := tuck (HNO.out fun h => h8 h.1)
  obtain ⟨z1, r0, r1, r2, rf⟩ := HV1.out.facts
  go_wp2_with fail
  refine bodyPost_ret (v := .tuple #[.agg #[.int .i64 0, .int .i64 0, .slice none 0 0], .bool false]) (by simp [results, Try.results19, go_sem, *]) rfl (HN.out _ ?_)
  first | exact bSet3 HB2.out (Nat.le_succ _) _ _ _ _ _ _ | exact HB2.out
 have hgt : ¬ (8 : Int) < (l.length : Int) := by omega
 have hok : AppsOk k l t ↔ (apps k l t).Valid := ⟨fun h => h.2, fun h => ⟨h8, h⟩⟩
 have HOK := tuck hok
 clear hok HNO
 obtain ⟨z0, a0, a1, a2, -⟩ := HV0.out.facts
 obtain ⟨z1, r0, r1, r2, rf⟩ := HV1.out.facts
 go_wp2_with fail
 clear z0 a0 a1 a2 z1 r0 r1 r2 rf HV0 HV1 HB2
 have HB3 := tuck (below2 w (.cells #[.int .i64 t.kind, .int .i64 t.num, .slice ta t.kids.length tc] 25) (.cells #[.int .i64 t.kind, .int .i64 t.num, .slice ta t.kids.length tc] 25))
 have HV3 := tuck (var_new1 w (.cells #[.int .i64 t.kind, .int .i64 t.num, .slice ta t.kids.length tc] 25) t.kind t.num (.slice ta t.kids.length tc))
 have HS3 := tuck (SlX.of_view (X := fun i => w.heap.size ≤ i ∧ i < w.heap.size + 2) HS0.out (View.of_below HB3.out (fun i hi => hi.1)))
 generalize ((w.alloc (.cells #[.int .i64 t.kind, .int .i64 t.num, .slice ta t.kids.length tc] 25)).alloc (.cells #[.int .i64 t.kind, .int .i64 t.num, .slice ta t.kids.length tc] 25)) = W3 at *
 go_loopw [17] (fun i wr => ∃ (q : Nat) (ra : Option Addr) (rc : Nat), q ≤ l.length ∧ i = .int .i64 (q : Int) ∧ Below w.heap.size w wr ∧ VarAt (w.heap.size + 1) (apps k (l.take q) t).kind (apps k (l.take q) t).num (.slice ra (apps k (l.take q) t).kids.length rc) wr ∧ SlX wr (fun i => w.heap.size ≤ i ∧ i < w.heap.size + 2) (apps k (l.take q) t).kids (.slice ra (apps k (l.take q) t).kids.length rc)) (fun i _ => l.length - (intOf i).toNat)
 case atStart => exact ⟨0, ta, tc, Nat.zero_le _, rfl, HB3.out, HV3.out, HS3.out⟩
 case round =>
  obtain ⟨q, ra, rc, hq, rfl, hb, hg, hsx⟩ := hrel
  by_cases hlt : q < l.length
  ·have hlti : ((q : Int) < (l.length : Int)) := by omega
   have HAP : Hid (apps k (l.take (q + 1)) t = node2 k (apps k (l.take q) t) l[q]) := tuck (apps_take hlt)
   obtain ⟨rfl, -, hbw⟩ := HP.out (by intro e; rw [e] at hlt; simp at hlt)
   obtain ⟨s, c0, c1, c2, hs⟩ := HC.out q hlt
   obtain ⟨xa, xc, rfl⟩ := hs.form
   have HXS := tuck (SlX.of_view (X := fun i => w.heap.size ≤ i ∧ i < w.heap.size + 2) hs (View.of_below hb (fun i hi => hi.1)))
   replace c0 := (hb.cell (p := ⟨b, o + q * 3, none⟩) hbw).trans c0
   replace c1 := (hb.cell (p := ⟨b, o + q * 3 + 1, none⟩) hbw).trans c1
   replace c2 := (hb.cell (p := ⟨b, o + q * 3 + 2, none⟩) hbw).trans c2
   generalize apps k (l.take q) t = T at *
   generalize hx : l[q] = x at *
   have HX := tuck hx
   have HB := tuck hb
   have HSX := tuck hsx
   have HGV := tuck hg
   obtain ⟨z1, r0, r1, r2, rf⟩ := hg.facts
   clear hx hb hsx hg hs
   have hbl := below2 wr (.cells #[.int .i64 x.kind, .int .i64 x.num, .slice xa x.kids.length xc] 25) (.cells #[.int .i64 T.kind, .int .i64 T.num, .slice ra T.kids.length rc, .int .i64 x.kind, .int .i64 x.num, .slice xa x.kids.length xc] 25)
   have hg2 := HGV.out.below hbl
   obtain ⟨z2, y0, y1, y2, yf⟩ := hg2.facts
   have HBL := tuck hbl
   have HG2 := tuck hg2
   have hblk := heap_new (wr.alloc (.cells #[.int .i64 x.kind, .int .i64 x.num, .slice xa x.kids.length xc] 25)) (.cells #[.int .i64 T.kind, .int .i64 T.num, .slice ra T.kids.length rc, .int .i64 x.kind, .int .i64 x.num, .slice xa x.kids.length xc] 25)
   rw [show (wr.alloc (.cells #[.int .i64 x.kind, .int .i64 x.num, .slice xa x.kids.length xc] 25)).heap.size = wr.heap.size + 1 by simp] at hblk
   have hrow : SlX ((wr.alloc (.cells #[.int .i64 x.kind, .int .i64 x.num, .slice xa x.kids.length xc] 25)).alloc (.cells #[.int .i64 T.kind, .int .i64 T.num, .slice ra T.kids.length rc, .int .i64 x.kind, .int .i64 x.num, .slice xa x.kids.length xc] 25)) (fun i => w.heap.size ≤ i ∧ i < w.heap.size + 2) (node2 k T x).kids (.slice (some ⟨wr.heap.size + 1, 0, none⟩) (node2 k T x).kids.length 2) :=
    tl_row (X := fun i => w.heap.size ≤ i ∧ i < w.heap.size + 2) (cap := 2) (r := [(T, .slice ra T.kids.length rc), (x, .slice xa x.kids.length xc)]) hblk rfl (fun h => by have h2 := h.2; omega) (by simp) (fun z hz => by
     simp only [List.mem_cons, List.not_mem_nil, or_false] at hz
     rcases hz with rfl | rfl
     ·exact HSX.out.below hbl
     ·exact HXS.out.below hbl)
   have HROW := tuck hrow
   clear hbl hg2 hblk hrow
   go_wp2_with fail
   go_roundw
   case rel =>
    refine ⟨q + 1, some ⟨wr.heap.size + 1, 0, none⟩, 2, by omega, by go_num, ?_, ?_, ?_⟩
    ·exact bSet3 (bAfter HB.out HBL.out) (Nat.le_succ _) _ _ _ _ _ _
    ·rw [HAP.out]; exact HG2.out.set
    ·rw [HAP.out]; exact HROW.out.put ⟨by omega, by omega⟩ _ _ _ _ _ _
   case measure => simp [intOf]; omega
  ·have hge2 : ¬ ((q : Int) < (l.length : Int)) := by omega
   rw [List.take_of_length_le (by omega)] at hg hsx
   have HC1 : Hid (∀ w', Below w.heap.size w w' → SlX w' (fun i => w.heap.size ≤ i ∧ i < w.heap.size + 2) (apps k l t).kids (.slice ra (apps k l t).kids.length rc) → Calls Try.prog 39 #[.agg #[.int .i64 (apps k l t).kind, .int .i64 (apps k l t).num, .slice ra (apps k l t).kids.length rc]] w' (ReplPost w' (apps k l t).Valid (apps k l t))) := tuck fun w' _ h => checked_any (apps k l t) w' _ h.sl
   unfold ReplPost at HC1
   have hP : tr (apps k l t).Valid = tr (AppsOk k l t) := tr_congr HOK.out.symm
   have hO : orZero (apps k l t).Valid (apps k l t) = orZero (AppsOk k l t) (apps k l t) := by
    unfold orZero
    by_cases h : AppsOk k l t
    ·rw [if_pos h, if_pos (HOK.out.1 h)]
    ·rw [if_neg h, if_neg (fun h' => h (HOK.out.2 h'))]
   rw [hP, hO] at HC1
   clear hP hO HOK
   generalize orZero (AppsOk k l t) (apps k l t) = R at *
   generalize tr (AppsOk k l t) = ok at *
   generalize apps k l t = T at *
   have HB := tuck hb
   have HSX := tuck hsx
   have HGV := tuck hg
   obtain ⟨z1, r0, r1, r2, rf⟩ := hg.facts
   clear hb hsx hg
   go_wp2_with fail
   refine (HC1.out wr HB.out HSX.out).mono ?_
   rintro e w2 ⟨hb2, v, rfl, s2, F, rfl, hs2, hn2, hF2⟩
   obtain ⟨sa, sc, rfl⟩ := hs2.form
   have HS2 := tuck hs2
   have HN2 := tuck hn2
   have HF2 := tuck hF2
   have HG2 := tuck (HGV.out.below hb2)
   have HBE := tuck (bAfter HB.out hb2)
   have HZE : Hid (w.heap.size + 2 ≤ wr.heap.size ∧ wr.heap.size ≤ w2.heap.size) := tuck ⟨by omega, hb2.size⟩
   clear hb2 hs2 hn2 hF2 z1 r0 r1 r2 rf
   obtain ⟨z1, r0, r1, r2, rf⟩ := HG2.out.facts
   go_wp2_with fail
   refine bodyPost_ret (v := .tuple #[.agg #[.int .i64 R.kind, .int .i64 R.num, .slice sa R.kids.length sc], .bool ok]) (by simp [results, Try.results19, go_sem, *]) rfl (HYES.out _ _ F ?_ ?_ HN2.out ?_)
   ·exact bSet3 HBE.out (Nat.le_succ _) _ _ _ _ _ _
   ·exact HS2.out.set3 (fun h => by have := (HF2.out _ h).1; have := HZE.out; omega) _ _ _ _ _ _
   ·intro g hg
    have := HF2.out g hg
    rw [size_set3]
    have := HZE.out
    omega
set_option maxRecDepth 100000 in
theorem applyAllI_any (l : List Tm) (t : Tm) (w : World) (v tv : Value) (hl : SlIn w 0 l v) (ht : TmIn w 0 t tv) : Calls Try.prog 7 #[tv, v] w (ReplPost w (AppsOk 5 l t) (apps 5 l t)) := by
 obtain ⟨s, rfl, hs⟩ := ht
 obtain ⟨ta, tc, rfl⟩ := hs.form
 obtain ⟨a, cap, rfl⟩ := hl.form
 have hb2 := below2 w (.cells #[.int .i64 t.kind, .int .i64 t.num, .slice ta t.kids.length tc] 25) (.cells #[.int .i64 0, .int .i64 0, .slice none 0 0] 25)
 have HV1 := tuck (var_new1 w (.cells #[.int .i64 t.kind, .int .i64 t.num, .slice ta t.kids.length tc] 25) 0 0 (.slice none 0 0))
 have hz2 : w.heap.size + 2 ≤ ((w.alloc (.cells #[.int .i64 t.kind, .int .i64 t.num, .slice ta t.kids.length tc] 25)).alloc (.cells #[.int .i64 0, .int .i64 0, .slice none 0 0] 25)).heap.size := by simp
 have HB2 := tuck hb2
 have HZ2 := tuck hz2
 have HC := tuck (foldL_any 5 l t ((w.alloc (.cells #[.int .i64 t.kind, .int .i64 t.num, .slice ta t.kids.length tc] 25)).alloc (.cells #[.int .i64 0, .int .i64 0, .slice none 0 0] 25)) _ _ (hl.below hb2) (hs.below hb2))
 have HYES : Hid (∀ w' s F, Below w.heap.size w w' → SlOwn w' (orZero (AppsOk 5 l t) (apps 5 l t)).kids s F → F.Nodup → (∀ g ∈ F, w.heap.size ≤ g ∧ g < w'.heap.size) → ReplPost w (AppsOk 5 l t) (apps 5 l t) (.returned (.tuple #[.agg #[.int .i64 (orZero (AppsOk 5 l t) (apps 5 l t)).kind, .int .i64 (orZero (AppsOk 5 l t) (apps 5 l t)).num, s], .bool (tr (AppsOk 5 l t))])) w') := tuck fun w' s F hb hs hn hF => ⟨hb, _, rfl, s, F, rfl, hs, hn, hF⟩
 generalize hpost : ReplPost w (AppsOk 5 l t) (apps 5 l t) = post at *
 unfold ReplPost at HC
 generalize orZero (AppsOk 5 l t) (apps 5 l t) = R at *
 generalize tr (AppsOk 5 l t) = ok at *
 clear hpost hb2 hz2 hl hs
 go_enter Try.func7, Try.ntmps7
 go_wp2_with fail
 generalize ((w.alloc (.cells #[.int .i64 t.kind, .int .i64 t.num, .slice ta t.kids.length tc] 25)).alloc (.cells #[.int .i64 0, .int .i64 0, .slice none 0 0] 25)) = W0 at *
 refine HC.out.mono ?_
 rintro e w2 ⟨hb2, v, rfl, s2, F, rfl, hs2, hn2, hF2⟩
 obtain ⟨sa, sc, rfl⟩ := hs2.form
 have HS2 := tuck hs2
 have HN2 := tuck hn2
 have HF2 := tuck hF2
 have HG2 := tuck (HV1.out.below hb2)
 have HBE := tuck (bAfter HB2.out hb2)
 have HZE : Hid (w.heap.size + 2 ≤ W0.heap.size ∧ W0.heap.size ≤ w2.heap.size) := tuck ⟨HZ2.out, hb2.size⟩
 clear hb2 hs2 hn2 hF2
 obtain ⟨z1, r0, r1, r2, rf⟩ := HG2.out.facts
 go_wp2_with fail
 refine bodyPost_ret (v := .tuple #[.agg #[.int .i64 R.kind, .int .i64 R.num, .slice sa R.kids.length sc], .bool ok]) (by simp [results, Try.results7, go_sem, *]) rfl (HYES.out _ _ F ?_ ?_ HN2.out ?_)
 ·exact bSet3 HBE.out (Nat.le_succ _) _ _ _ _ _ _
 ·exact HS2.out.set3 (fun h => by have := (HF2.out _ h).1; have := HZE.out; omega) _ _ _ _ _ _
 ·intro g hg
  have := HF2.out g hg
  rw [size_set3]
  have := HZE.out
  omega
end Go.Proofs.Ytkjfdhdmkaofeaa
