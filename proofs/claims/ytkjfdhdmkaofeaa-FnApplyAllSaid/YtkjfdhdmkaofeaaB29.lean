/-
  TeleA.
-/
import Derived.Test.YtkjfdhdmkaofeaaB27
namespace Go.Proofs.Ytkjfdhdmkaofeaa
open Go.RowKit
set_option maxRecDepth 100000 in
set_option maxHeartbeats 3000000 in
theorem applyAllS_any (l : List Tm) (t : Tm) (w : World) (v tv : Value) (hl : SlIn w 0 l v) (ht : TmIn w 0 t tv) : Calls Try.prog 8 #[tv, v] w (TlRes w (AppsOk 5 l t) (apps 5 l t)) := by
 obtain ⟨s, rfl, hs⟩ := ht
 obtain ⟨ta, tc, rfl⟩ := hs.form
 obtain ⟨a, cap, b, o, rfl, -, hp, hc⟩ := hl.open
 have hb2 := below2 w (.cells #[.int .i64 t.kind, .int .i64 t.num, .slice ta t.kids.length tc] 25) (.cells #[.int .i64 0, .int .i64 0, .slice none 0 0] 25)
 have HV0 := tuck ((VarAt.new w t.kind t.num (.slice ta t.kids.length tc)).below (below1 _ (.cells #[.int .i64 0, .int .i64 0, .slice none 0 0] 25)))
 have HV1 := tuck (var_new1 w (.cells #[.int .i64 t.kind, .int .i64 t.num, .slice ta t.kids.length tc] 25) 0 0 (.slice none 0 0))
 have hz2 : w.heap.size + 2 ≤ ((w.alloc (.cells #[.int .i64 t.kind, .int .i64 t.num, .slice ta t.kids.length tc] 25)).alloc (.cells #[.int .i64 0, .int .i64 0, .slice none 0 0] 25)).heap.size := by simp
 have HL := tuck hl
 have HP := tuck hp
 have HC := tuck hc
 have HS := tuck hs
 have HB2 := tuck hb2
 have HZ2 := tuck hz2
 have HNO : Hid (¬ AppsOk 5 l t → ∀ w', Below w.heap.size w w' → TlRes w (AppsOk 5 l t) (apps 5 l t) (.returned (.tuple #[.agg #[.int .i64 0, .int .i64 0, .slice none 0 0], .bool false])) w') := tuck fun h w' hb => TlRes.no h hb
 have HYES : Hid (AppsOk 5 l t → ∀ w' a c, Below w.heap.size w w' → SlIn w' w.heap.size (apps 5 l t).kids (.slice a (apps 5 l t).kids.length c) → TlRes w (AppsOk 5 l t) (apps 5 l t) (.returned (.tuple #[.agg #[.int .i64 (apps 5 l t).kind, .int .i64 (apps 5 l t).num, .slice a (apps 5 l t).kids.length c], .bool true])) w') := tuck fun h w' a c hb hs => TlRes.yes h hb hs
 generalize TlRes w (AppsOk 5 l t) (apps 5 l t) = post at *
 clear hb2 hz2 hl hs hp hc
 go_enter Try.func8, Try.ntmps8
 go_wp2_with fail
 generalize ((w.alloc (.cells #[.int .i64 t.kind, .int .i64 t.num, .slice ta t.kids.length tc] 25)).alloc (.cells #[.int .i64 0, .int .i64 0, .slice none 0 0] 25)) = W0 at *
 refine (validS_any t W0 _ ⟨_, rfl, HS.out.below HB2.out⟩).mono ?_
 rintro e w1 ⟨rfl, hb1⟩
 have hvt := (HV0.out.below hb1)
 obtain ⟨z0, a0, a1, a2, -⟩ := hvt.facts
 have HVT := tuck hvt
 have HVR := tuck (HV1.out.below hb1)
 have HZ := tuck (Nat.le_trans HZ2.out hb1.size)
 have HB := tuck (bAfter HB2.out hb1)
 clear hb1 hvt HV0 HV1 HB2 HZ2
 by_cases hv : t.Valid
 rotate_left
 ·rw [tr_not hv]
  have HN := tuck (HNO.out fun h => hv (AppsOk.iff.1 h).1.2)
  obtain ⟨z1, r0, r1, r2, rf⟩ := HVR.out.facts
  go_wp2_with fail
  refine bodyPost_ret (v := .tuple #[.agg #[.int .i64 0, .int .i64 0, .slice none 0 0], .bool false]) (by simp [results, Try.results8, go_sem, *]) rfl (HN.out _ ?_)
  first | exact bSet3 HB.out (Nat.le_succ _) _ _ _ _ _ _ | exact HB.out
 rw [tr_of hv]
 go_wp2_with fail
 refine (fitsS_any l w1 _ (HL.out.below HB.out)).mono ?_
 rintro e w2 ⟨rfl, hb2⟩
 have hvt := (HVT.out.below hb2)
 replace HVT := tuck hvt
 replace HVR := tuck (HVR.out.below hb2)
 replace HZ := tuck (Nat.le_trans HZ.out hb2.size)
 replace HB := tuck (bAfter HB.out hb2)
 clear hb2 z0 a0 a1 a2
 obtain ⟨z0, a0, a1, a2, -⟩ := hvt.facts
 clear hvt
 by_cases hf : Fits l
 rotate_left
 ·rw [tr_not hf]
  have HN := tuck (HNO.out fun h => hf (AppsOk.iff.1 h).1.1)
  obtain ⟨z1, r0, r1, r2, rf⟩ := HVR.out.facts
  go_wp2_with fail
  refine bodyPost_ret (v := .tuple #[.agg #[.int .i64 0, .int .i64 0, .slice none 0 0], .bool false]) (by simp [results, Try.results8, go_sem, *]) rfl (HN.out _ ?_)
  first | exact bSet3 HB.out (Nat.le_succ _) _ _ _ _ _ _ | exact HB.out
 rw [tr_of hf]
 have HOI : Hid ((apps 5 l t).Valid ↔ AppsOk 5 l t) := tuck ⟨fun h => ⟨hf.2, h⟩, fun h => h.2⟩
 generalize AppsOk 5 l t = P at *
 have h8 := hf.2
 have HVL := tuck hf.1
 go_wp2_with fail
 refine (tl_copyS t (by have := (valid_bounds hv).1; omega) w2 _ (HS.out.below HB.out)).mono ?_
 rintro e w4 ⟨hb4, sa, sc, rfl, hs4⟩
 have HVZ4 := tuck (HVR.out.below hb4)
 have HB4 := tuck (bAfter HB.out hb4)
 have HZ4 : Hid (w.heap.size + 2 ≤ w4.heap.size) := tuck (Nat.le_trans HZ.out hb4.size)
 have HS4 := tuck (SlX.of_sl (X := fun i => i < w.heap.size + 2) hs4 (fun i hi => Nat.lt_of_lt_of_le hi HZ.out))
 clear hb4 hs4 HVT HVR HB HZ hf hv z0 a0 a1 a2
 go_wp2_with fail
 have hbk := below1 w4 (.cells #[.int .i64 t.kind, .int .i64 t.num, .slice sa t.kids.length sc] 25)
 have HG := tuck (VarAt.new w4 t.kind t.num (.slice sa t.kids.length sc))
 have HVZ := tuck (HVZ4.out.below hbk)
 have HBK := tuck (bAfter HB4.out hbk)
 have HSK : Hid (SlX _ (fun i => i < w.heap.size + 2 ∨ i = w4.heap.size) t.kids (.slice sa t.kids.length sc)) := tuck (HS4.out.lay (.cells #[.int .i64 t.kind, .int .i64 t.num, .slice sa t.kids.length sc] 25))
 have hg7 : w.heap.size + 2 ≤ w4.heap.size := HZ4.out
 clear hbk HVZ4 HB4 HS4 HZ4
 generalize w4.alloc (.cells #[.int .i64 t.kind, .int .i64 t.num, .slice sa t.kids.length sc] 25) = W1 at *
 generalize w4.heap.size = g7 at *
 go_loopw [7] (fun i wr => ∃ (q : Nat) (ra : Option Addr) (rc : Nat), q ≤ l.length ∧ i = .int .i64 (q : Int) ∧ Below w.heap.size w wr ∧ VarAt (w.heap.size + 1) 0 0 (.slice none 0 0) wr ∧ VarAt g7 (apps 5 (l.take q) t).kind (apps 5 (l.take q) t).num (.slice ra (apps 5 (l.take q) t).kids.length rc) wr ∧ SlX wr (fun i => i < w.heap.size + 2 ∨ i = g7) (apps 5 (l.take q) t).kids (.slice ra (apps 5 (l.take q) t).kids.length rc)) (fun i _ => l.length - (intOf i).toNat)
 case atStart => exact ⟨0, sa, sc, Nat.zero_le _, rfl, HBK.out, HVZ.out, HG.out, HSK.out⟩
 case round =>
  obtain ⟨r, ra, rc, hq, rfl, hb, hvz, hg, hsx⟩ := hrel
  by_cases hr : r < l.length
  ·have hpos : (0 : Int) ≤ ((r : Nat) : Int) := by omega
   have hri : ((r : Int) < (l.length : Int)) := by omega
   have HOV : Hid (apps 5 (l.take (r + 1)) t = node2 5 (apps 5 (l.take r) t) l[r]) := tuck (apps_take hr)
   obtain ⟨rfl, -, hbw⟩ := HP.out (by intro e; rw [e] at hr; simp at hr)
   obtain ⟨s, c0, c1, c2, hs⟩ := HC.out r hr
   obtain ⟨xa, xc, rfl⟩ := hs.form
   have HCX : Hid (∀ w', Below w.heap.size w w' → Calls Try.prog 22 #[.agg #[.int .i64 l[r].kind, .int .i64 l[r].num, .slice xa l[r].kids.length xc]] w' (TlPost w' l[r])) := tuck fun w' h => tl_copyS l[r] (by have := (valid_bounds (HVL.out _ (List.getElem_mem hr))).1; omega) w' _ (hs.below h)
   generalize apps 5 (l.take r) t = T at *
   generalize hx : l[r] = x at *
   have HCELL : Hid (∀ w', Below w.heap.size w w' → w'.cell? ⟨b, o + r * 3, none⟩ = some (.int .i64 x.kind) ∧ w'.cell? ⟨b, o + r * 3 + 1, none⟩ = some (.int .i64 x.num) ∧ w'.cell? ⟨b, o + r * 3 + 2, none⟩ = some (.slice xa x.kids.length xc)) := tuck fun w' h => ⟨(h.cell (p := ⟨b, o + r * 3, none⟩) hbw).trans c0, (h.cell (p := ⟨b, o + r * 3 + 1, none⟩) hbw).trans c1, (h.cell (p := ⟨b, o + r * 3 + 2, none⟩) hbw).trans c2⟩
   have HX := tuck hx
   have HB := tuck hb
   have HSX := tuck hsx
   have HGV := tuck hg
   have HVZR := tuck hvz
   have HZW : Hid (w.heap.size + 2 ≤ g7 ∧ g7 < wr.heap.size) := tuck ⟨hg7, hg.facts.1⟩
   have HOLD : Hid (∀ w', Below wr.heap.size wr w' → (fun w' : World => Below wr.heap.size wr w' ∧ (g7 < w'.heap.size ∧ b < w'.heap.size) ∧ (w'.cell? ⟨g7, 0, none⟩ = some (.int .i64 T.kind) ∧ w'.cell? ⟨g7, 1, none⟩ = some (.int .i64 T.num) ∧ w'.cell? ⟨g7, 2, none⟩ = some (.slice ra T.kids.length rc)) ∧ w'.cell? ⟨b, o + r * 3, none⟩ = some (.int .i64 x.kind) ∧ w'.cell? ⟨b, o + r * 3 + 1, none⟩ = some (.int .i64 x.num) ∧ w'.cell? ⟨b, o + r * 3 + 2, none⟩ = some (.slice xa x.kids.length xc)) w') := tuck fun w' h => ⟨h, ⟨Nat.lt_of_lt_of_le hg.facts.1 h.size, by have := h.size; have := hb.size; omega⟩, ⟨(hg.below h).facts.2.1, (hg.below h).facts.2.2.1, (hg.below h).facts.2.2.2.1⟩, HCELL.out _ (bAfter hb h)⟩
   clear hx hb hsx hg hvz hs c0 c1 c2 HCELL
   go_upto_region 7 with fail
   refine AnyTwo.begin (fun w' : World => Below wr.heap.size wr w' ∧ (g7 < w'.heap.size ∧ b < w'.heap.size) ∧ (w'.cell? ⟨g7, 0, none⟩ = some (.int .i64 T.kind) ∧ w'.cell? ⟨g7, 1, none⟩ = some (.int .i64 T.num) ∧ w'.cell? ⟨g7, 2, none⟩ = some (.slice ra T.kids.length rc)) ∧ w'.cell? ⟨b, o + r * 3, none⟩ = some (.int .i64 x.kind) ∧ w'.cell? ⟨b, o + r * 3 + 1, none⟩ = some (.int .i64 x.num) ∧ w'.cell? ⟨b, o + r * 3 + 2, none⟩ = some (.slice xa x.kids.length xc)) (fun _ => True) 8 (by kernel_rfl) ?_
   have hS1 : (fun w' : World => Below wr.heap.size wr w' ∧ (g7 < w'.heap.size ∧ b < w'.heap.size) ∧ (w'.cell? ⟨g7, 0, none⟩ = some (.int .i64 T.kind) ∧ w'.cell? ⟨g7, 1, none⟩ = some (.int .i64 T.num) ∧ w'.cell? ⟨g7, 2, none⟩ = some (.slice ra T.kids.length rc)) ∧ w'.cell? ⟨b, o + r * 3, none⟩ = some (.int .i64 x.kind) ∧ w'.cell? ⟨b, o + r * 3 + 1, none⟩ = some (.int .i64 x.num) ∧ w'.cell? ⟨b, o + r * 3 + 2, none⟩ = some (.slice xa x.kids.length xc)) _ := HOLD.out _ (Below.refl _ _).drew
   refine AnyTwo.take (i := 0) (oi := ⟨some 25, _, _, _, _, _⟩) (v := ?vr0) rfl (by kernel_rfl) (by kernel_rfl) (by decide +kernel) (by kernel_rfl) (by rfl) (by kernel_rfl) (fun _ _ _ h => h) (Or.inl ⟨by rfl, ?yr0⟩) hS1 ?rr0
   case yr0 => (intro w hSw; (try dsimp only at hSw); go_simp; try (with_reducible rfl))
   try simp only [Act.put, List.setIfInBounds_toArray, List.set_cons_zero, List.set_cons_succ]
   refine AnyTwo.take (i := 1) (oi := ⟨some 26, _, _, _, _, _⟩) (v := ?vr1) rfl (by kernel_rfl) (by kernel_rfl) (by decide +kernel) (by kernel_rfl) (by rfl) (by kernel_rfl) (fun _ _ _ h => h) (Or.inl ⟨by rfl, ?yr1⟩) hS1 ?rr1
   case yr1 => (intro w hSw; (try dsimp only at hSw); go_simp; try (with_reducible rfl))
   try simp only [Act.put, List.setIfInBounds_toArray, List.set_cons_zero, List.set_cons_succ]
   refine AnyTwo.take (i := 2) (oi := ⟨some 27, _, _, _, _, _⟩) (v := ?vr2) rfl (by kernel_rfl) (by kernel_rfl) (by decide +kernel) (by kernel_rfl) (by rfl) (by kernel_rfl) (fun _ _ _ h => h) (Or.inl ⟨by rfl, ?yr2⟩) hS1 ?rr2
   case yr2 => (intro w hSw; (try dsimp only at hSw); go_simp; try (with_reducible rfl))
   try simp only [Act.put, List.setIfInBounds_toArray, List.set_cons_zero, List.set_cons_succ]
   refine AnyTwo.take (i := 3) (oi := ⟨some 28, _, _, _, _, _⟩) (v := ?vr3) rfl (by kernel_rfl) (by kernel_rfl) (by decide +kernel) (by kernel_rfl) (by rfl) (by kernel_rfl) (fun _ _ _ h => h) (Or.inl ⟨by rfl, ?yr3⟩) hS1 ?rr3
   case yr3 => (intro w hSw; (try dsimp only at hSw); go_simp; try (with_reducible rfl))
   try simp only [Act.put, List.setIfInBounds_toArray, List.set_cons_zero, List.set_cons_succ]
   refine AnyTwo.take (i := 4) (oi := ⟨some 29, _, _, _, _, _⟩) (v := ?vr4) rfl (by kernel_rfl) (by kernel_rfl) (by decide +kernel) (by kernel_rfl) (by rfl) (by kernel_rfl) (fun _ _ _ h => h) (Or.inl ⟨by rfl, ?yr4⟩) hS1 ?rr4
   case yr4 => (intro w hSw; (try dsimp only at hSw); go_simp; try (with_reducible rfl))
   try simp only [Act.put, List.setIfInBounds_toArray, List.set_cons_zero, List.set_cons_succ]
   refine AnyTwo.step (i := 5) (o := ⟨some 30, _, _, _, _, _⟩) (by kernel_rfl) rfl (fun K hK => ?_)
   go_simp
   refine (HCX.out _ (bAfter HB.out hS1.1)).mono ?_
   rintro e w2 ⟨hb2, ya, yc, rfl, hs2⟩
   have hS1' : (fun w' : World => Below wr.heap.size wr w' ∧ (g7 < w'.heap.size ∧ b < w'.heap.size) ∧ (w'.cell? ⟨g7, 0, none⟩ = some (.int .i64 T.kind) ∧ w'.cell? ⟨g7, 1, none⟩ = some (.int .i64 T.num) ∧ w'.cell? ⟨g7, 2, none⟩ = some (.slice ra T.kids.length rc)) ∧ w'.cell? ⟨b, o + r * 3, none⟩ = some (.int .i64 x.kind) ∧ w'.cell? ⟨b, o + r * 3 + 1, none⟩ = some (.int .i64 x.num) ∧ w'.cell? ⟨b, o + r * 3 + 2, none⟩ = some (.slice xa x.kids.length xc)) _ := HOLD.out _ (bAfter hS1.1 hb2)
   refine hK.out _ _ (ph_one (by kernel_rfl) hS1') ?_
   clear hK K hS1
   have hS1 := hS1'
   clear hS1'
   try simp only [Act.put, List.setIfInBounds_toArray, List.set_cons_zero, List.set_cons_succ]
   refine AnyTwo.step (i := 6) (o := ⟨some 31, _, _, _, _, _⟩) (by kernel_rfl) rfl (fun K hK => ?_)
   go_simp
   have hbl := below1 w2 (.cells #[.int .i64 T.kind, .int .i64 T.num, .slice ra T.kids.length rc, .int .i64 x.kind, .int .i64 x.num, .slice ya x.kids.length yc] 25)
   have hblk := heap_new w2 (.cells #[.int .i64 T.kind, .int .i64 T.num, .slice ra T.kids.length rc, .int .i64 x.kind, .int .i64 x.num, .slice ya x.kids.length yc] 25)
   have hy := (SlX.of_sl (X := fun i => i < w.heap.size + 2 ∨ i = g7) hs2 (fun i hi => by have h1 := HZW.out; have h2 := (show wr.drew.heap.size = wr.heap.size from rfl); omega)).below hbl
   have hx := (HSX.out.below (bAfter hS1.1 hbl))
   have hS1' : (fun w' : World => Below wr.heap.size wr w' ∧ (g7 < w'.heap.size ∧ b < w'.heap.size) ∧ (w'.cell? ⟨g7, 0, none⟩ = some (.int .i64 T.kind) ∧ w'.cell? ⟨g7, 1, none⟩ = some (.int .i64 T.num) ∧ w'.cell? ⟨g7, 2, none⟩ = some (.slice ra T.kids.length rc)) ∧ w'.cell? ⟨b, o + r * 3, none⟩ = some (.int .i64 x.kind) ∧ w'.cell? ⟨b, o + r * 3 + 1, none⟩ = some (.int .i64 x.num) ∧ w'.cell? ⟨b, o + r * 3 + 2, none⟩ = some (.slice xa x.kids.length xc)) _ := HOLD.out _ (bAfter hS1.1 hbl)
   refine hK.out _ _ (ph_one (by kernel_rfl) hS1') ?_
   clear hK K hS1
   have hS1 := hS1'
   clear hS1'
   try simp only [Act.put, List.setIfInBounds_toArray, List.set_cons_zero, List.set_cons_succ]
   refine AnyTwo.step (i := 7) (o := ⟨some 32, _, _, _, _, _⟩) (by kernel_rfl) rfl (fun K hK => ?_)
   go_simp
   refine (nodeX_any 5 [(T, .slice ra T.kids.length rc), (x, .slice ya x.kids.length yc)] _ w2.heap.size 2 25 _ (fun i => i < w.heap.size + 2 ∨ i = g7) (fun i hi => by have h1 := HZW.out; have h2 := hS1.1.size; omega) (by simp) (by simp) hblk rfl (fun z hz => by
    simp only [List.mem_cons, List.not_mem_nil, or_false] at hz
    rcases hz with rfl | rfl
    ·exact hx
    ·exact hy)).mono ?_
   rintro e w3 ⟨hb3, na, nc, rfl, hs3⟩
   have hg3 := HGV.out.below (bAfter hS1.1 hb3)
   have hgf := hg3.facts.2.2.2.2
   have hS1' : (fun w' : World => Below wr.heap.size wr w' ∧ (g7 < w'.heap.size ∧ b < w'.heap.size) ∧ (w'.cell? ⟨g7, 0, none⟩ = some (.int .i64 T.kind) ∧ w'.cell? ⟨g7, 1, none⟩ = some (.int .i64 T.num) ∧ w'.cell? ⟨g7, 2, none⟩ = some (.slice ra T.kids.length rc)) ∧ w'.cell? ⟨b, o + r * 3, none⟩ = some (.int .i64 x.kind) ∧ w'.cell? ⟨b, o + r * 3 + 1, none⟩ = some (.int .i64 x.num) ∧ w'.cell? ⟨b, o + r * 3 + 2, none⟩ = some (.slice xa x.kids.length xc)) _ := HOLD.out _ (bAfter hS1.1 hb3)
   refine hK.out _ _ (ph_one (by kernel_rfl) hS1') ?_
   clear hK K hS1
   have hS1 := hS1'
   clear hS1'
   try simp only [Act.put, List.setIfInBounds_toArray, List.set_cons_zero, List.set_cons_succ]
   refine AnyTwo.step (i := 8) (o := ⟨none, _, _, _, _, _⟩) (by kernel_rfl) rfl (fun K hK => ?_)
   go_simp
   refine hK.out _ _ (ph_end (by kernel_rfl) trivial) ?_
   clear hK K
   try simp only [Act.put, List.setIfInBounds_toArray, List.set_cons_zero, List.set_cons_succ]
   refine AnyTwo.done (by kernel_rfl) ?_ _
   have HB3 := tuck (bAfter HB.out hS1.1)
   have HG3 := tuck hg3
   have HS3 := tuck hs3
   have HZ3 := tuck (HVZR.out.below hS1.1)
   clear hb3 hg3 hs3 hx hy hbl hblk hS1
   go_wp2_with fail
   go_roundw
   case rel =>
    refine ⟨r + 1, na, nc, by omega, by go_num, ?_, ?_, ?_, ?_⟩
    ·exact bSet3 HB3.out (by omega) _ _ _ _ _ _
    ·exact HZ3.out.far3 (by omega) _ _ _ _ _ _
    ·rw [HOV.out]; exact HG3.out.set
    ·rw [HOV.out]; exact HS3.out.put (Or.inr rfl) _ _ _ _ _ _
   case measure => simp [intOf]; omega
  ·have hge2 : ¬ ((r : Int) < (l.length : Int)) := by omega
   rw [List.take_of_length_le (by omega)] at hg hsx
   generalize apps 5 l t = T at *
   have HB := tuck hb
   have HSX := tuck hsx
   have HVZR := tuck hvz
   obtain ⟨z0, a0, a1, a2, -⟩ := hg.facts
   clear hb hsx hvz hg
   go_wp2_with fail
   refine (madeS_any T wr _ HSX.out.sl).mono ?_
   rintro e w5 ⟨hb5, h5⟩
   have HVR := tuck (HVZR.out.below hb5)
   replace HB := tuck (bAfter HB.out hb5)
   replace HSX := tuck (HSX.out.below hb5)
   clear hb5
   obtain ⟨z1, r0, r1, r2, rf⟩ := HVR.out.facts
   rcases h5 with ⟨h5, rfl⟩ | ⟨h5, rfl⟩
   ·have HY := tuck (HYES.out (HOI.out.1 h5))
    go_wp2_with fail
    refine bodyPost_ret (v := .tuple #[.agg #[.int .i64 T.kind, .int .i64 T.num, .slice ra T.kids.length rc], .bool true]) (by simp [results, Try.results8, go_sem, *]) rfl (HY.out _ _ _ ?_ ?_)
    ·exact bSet3 HB.out (Nat.le_succ _) _ _ _ _ _ _
    ·exact tl_from ((HSX.out.put (Or.inl (by show w.heap.size + 1 < w.heap.size + 2; omega)) _ _ _ _ _ _).less fun i hi => Or.inl (by omega))
   ·have HN := tuck (HNO.out fun h => h5 (HOI.out.2 h))
    go_wp2_with fail
    refine bodyPost_ret (v := .tuple #[.agg #[.int .i64 0, .int .i64 0, .slice none 0 0], .bool false]) (by simp [results, Try.results8, go_sem, *]) rfl (HN.out _ ?_)
    first | exact bSet3 HB.out (Nat.le_succ _) _ _ _ _ _ _ | exact HB.out
end Go.Proofs.Ytkjfdhdmkaofeaa
