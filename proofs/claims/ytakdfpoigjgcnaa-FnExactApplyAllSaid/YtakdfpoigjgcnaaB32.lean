/-
  TeleO.
-/
import Derived.Test.YtakdfpoigjgcnaaB31
namespace Go.Proofs.Ytakdfpoigjgcnaa
open Go.RowKit
set_option maxRecDepth 100000 in
set_option maxHeartbeats 2000000 in
theorem overS_any (k : Int) (l : List Tm) (t : Tm) (hv : ∀ a ∈ l, a.Valid) (hl8 : l.length ≤ 8) (ht : t.Valid) (w : World) (v s : Value) (hl : SlIn w 0 l v) (hs : SlIn w 0 t.kids s) :
  Calls Try.prog 37 #[.int .i64 k, v, .agg #[.int .i64 t.kind, .int .i64 t.num, s]] w (TlPost w (over k l t)) := by
 obtain ⟨a, cap, b, o, rfl, -, hp, hc⟩ := hl.open
 obtain ⟨ta, tc, rfl⟩ := hs.form
 have HP := tuck hp
 have HC := tuck hc
 have HS := tuck hs
 have HVL := tuck hv
 clear hl hp hc hs hv
 have hb2 := below2 w (.cells #[.int .i64 t.kind, .int .i64 t.num, .slice ta t.kids.length tc] 29) (.cells #[.int .i64 0, .int .i64 0, .slice none 0 0] 29)
 have HV0 := tuck ((VarAt.new w t.kind t.num (.slice ta t.kids.length tc)).below (below1 _ (.cells #[.int .i64 0, .int .i64 0, .slice none 0 0] 29)))
 have HV1 := tuck (var_new1 w (.cells #[.int .i64 t.kind, .int .i64 t.num, .slice ta t.kids.length tc] 29) 0 0 (.slice none 0 0))
 have hz2 : w.heap.size + 2 ≤ ((w.alloc (.cells #[.int .i64 t.kind, .int .i64 t.num, .slice ta t.kids.length tc] 29)).alloc (.cells #[.int .i64 0, .int .i64 0, .slice none 0 0] 29)).heap.size := by simp
 have HCT : Hid (∀ w', Below w.heap.size w w' → Calls Try.prog 39 #[.agg #[.int .i64 t.kind, .int .i64 t.num, .slice ta t.kids.length tc]] w' (TlPost w' t)) := tuck fun w' h => tl_copyS t (by have := (valid_bounds ht).1; omega) w' _ (HS.out.below h)
 have HB2 := tuck hb2
 have HZ2 := tuck hz2
 clear hb2 hz2 ht HS
 go_enter Try.func37, Try.ntmps37
 go_wp2_with fail
 generalize ((w.alloc (.cells #[.int .i64 t.kind, .int .i64 t.num, .slice ta t.kids.length tc] 29)).alloc (.cells #[.int .i64 0, .int .i64 0, .slice none 0 0] 29)) = W0 at *
 refine (HCT.out _ HB2.out).mono ?_
 rintro e w1 ⟨hb1, sa, sc, rfl, hs1⟩
 have HV1' := tuck (HV1.out.below hb1)
 have HB1 := tuck (bAfter HB2.out hb1)
 have HZ1 : Hid (w.heap.size + 2 ≤ w1.heap.size) := tuck (Nat.le_trans HZ2.out hb1.size)
 have HS1 := tuck (SlX.of_sl (X := fun i => i < w.heap.size + 2) hs1 (fun i hi => Nat.lt_of_lt_of_le hi HZ2.out))
 clear hb1 hs1 HV0 HV1 HB2 HZ2 HCT
 go_wp2_with fail
 have hbk := below1 w1 (.cells #[.int .i64 t.kind, .int .i64 t.num, .slice sa t.kids.length sc] 29)
 have HG := tuck (VarAt.new w1 t.kind t.num (.slice sa t.kids.length sc))
 have HVZ := tuck (HV1'.out.below hbk)
 have HBK := tuck (bAfter HB1.out hbk)
 have HSK : Hid (SlX _ (fun i => i < w.heap.size + 2 ∨ i = w1.heap.size) t.kids (.slice sa t.kids.length sc)) := tuck (HS1.out.lay (.cells #[.int .i64 t.kind, .int .i64 t.num, .slice sa t.kids.length sc] 29))
 have hg7 : w.heap.size + 2 ≤ w1.heap.size := HZ1.out
 clear hbk HV1' HB1 HS1 HZ1
 generalize w1.alloc (.cells #[.int .i64 t.kind, .int .i64 t.num, .slice sa t.kids.length sc] 29) = W1 at *
 generalize w1.heap.size = g7 at *
 go_loopw [8] (fun i wr => ∃ (q : Nat) (ra : Option Addr) (rc : Nat), q ≤ l.length ∧ i = .int .i64 ((q : Int) - 1) ∧ Below w.heap.size w wr ∧ VarAt (w.heap.size + 1) 0 0 (.slice none 0 0) wr ∧ VarAt g7 (over k (l.drop q) t).kind (over k (l.drop q) t).num (.slice ra (over k (l.drop q) t).kids.length rc) wr ∧ SlX wr (fun i => i < w.heap.size + 2 ∨ i = g7) (over k (l.drop q) t).kids (.slice ra (over k (l.drop q) t).kids.length rc)) (fun i _ => (intOf i + 1).toNat)
 case atStart =>
  refine ⟨l.length, sa, sc, Nat.le_refl _, by first | rfl | (simp [go_sem]; done) | (congr 1; simp [IntWalk.i64_in]; omega), HBK.out, HVZ.out, ?_, ?_⟩
  ·rw [List.drop_length]; exact HG.out
  ·rw [List.drop_length]; exact HSK.out
 case round =>
  obtain ⟨q, ra, rc, hq, rfl, hb, hvz, hg, hsx⟩ := hrel
  cases q with
  | zero =>
   have hneg : ¬ (0 : Int) ≤ ((0 : Nat) : Int) - 1 := by omega
   rw [List.drop_zero] at hg hsx
   have HF : Hid (∀ w', Below w.heap.size w w' → SlX w' (fun i => i < w.heap.size + 2 ∨ i = g7) (over k l t).kids (.slice ra (over k l t).kids.length rc) → TlPost w (over k l t) (.returned (.agg #[.int .i64 (over k l t).kind, .int .i64 (over k l t).num, .slice ra (over k l t).kids.length rc])) w') := tuck fun w' h1 h2 => ⟨h1, ra, rc, rfl, tl_from (h2.less fun i hi => Or.inl (by omega))⟩
   generalize TlPost w (over k l t) = post at *
   generalize over k l t = T at *
   obtain ⟨z0, a0, a1, a2, af⟩ := hg.facts
   obtain ⟨z1, r0, r1, r2, rf⟩ := hvz.facts
   have HB := tuck hb
   have HSX := tuck hsx
   clear hb hsx hg hvz
   go_wp2_with fail
   refine bodyPost_ret (v := .agg #[.int .i64 T.kind, .int .i64 T.num, .slice ra T.kids.length rc]) (by simp [results, Try.results37, go_sem, *]) rfl (HF.out _ ?_ ?_)
   ·exact bSet3 HB.out (Nat.le_succ _) _ _ _ _ _ _
   ·exact HSX.out.put (Or.inl (by show w.heap.size + 1 < w.heap.size + 2; omega)) _ _ _ _ _ _
  | succ r =>
   have hr : r < l.length := by omega
   have hpos : (0 : Int) ≤ ((r : Nat) : Int) := by omega
   have hri : ((r : Int) < (l.length : Int)) := by omega
   rw [show (((r + 1 : Nat) : Int) - 1) = (r : Int) by omega]
   have HOV : Hid (over k (l.drop r) t = node2 k l[r] (over k (l.drop (r + 1)) t)) := tuck (over_drop hr)
   obtain ⟨rfl, -, hbw⟩ := HP.out (by intro e; rw [e] at hr; simp at hr)
   obtain ⟨s, c0, c1, c2, hs⟩ := HC.out r hr
   obtain ⟨xa, xc, rfl⟩ := hs.form
   have HCX : Hid (∀ w', Below w.heap.size w w' → Calls Try.prog 39 #[.agg #[.int .i64 l[r].kind, .int .i64 l[r].num, .slice xa l[r].kids.length xc]] w' (TlPost w' l[r])) := tuck fun w' h => tl_copyS l[r] (by have := (valid_bounds (HVL.out _ (List.getElem_mem hr))).1; omega) w' _ (hs.below h)
   generalize over k (l.drop (r + 1)) t = T at *
   generalize hx : l[r] = x at *
   have HCELL : Hid (∀ w', Below w.heap.size w w' → w'.cell? ⟨b, o + r * 3, none⟩ = some (.int .i64 x.kind) ∧ w'.cell? ⟨b, o + r * 3 + 1, none⟩ = some (.int .i64 x.num) ∧ w'.cell? ⟨b, o + r * 3 + 2, none⟩ = some (.slice xa x.kids.length xc)) := tuck fun w' h => ⟨(h.cell (p := ⟨b, o + r * 3, none⟩) hbw).trans c0, (h.cell (p := ⟨b, o + r * 3 + 1, none⟩) hbw).trans c1, (h.cell (p := ⟨b, o + r * 3 + 2, none⟩) hbw).trans c2⟩
   have HX := tuck hx
   have HB := tuck hb
   have HSX := tuck hsx
   have HGV := tuck hg
   have HVZR := tuck hvz
   have HZW : Hid (w.heap.size + 2 ≤ g7 ∧ g7 < wr.heap.size) := tuck ⟨hg7, hg.facts.1⟩
   have HOLD : Hid (∀ w', Below wr.heap.size wr w' → (fun w' : World => Below wr.heap.size wr w' ∧ (g7 < w'.heap.size ∧ b < w'.heap.size) ∧ (w'.cell? ⟨g7, 0, none⟩ = some (.int .i64 T.kind) ∧ w'.cell? ⟨g7, 1, none⟩ = some (.int .i64 T.num) ∧ w'.cell? ⟨g7, 2, none⟩ = some (.slice ra T.kids.length rc)) ∧ w'.cell? ⟨b, o + r * 3, none⟩ = some (.int .i64 x.kind) ∧ w'.cell? ⟨b, o + r * 3 + 1, none⟩ = some (.int .i64 x.num) ∧ w'.cell? ⟨b, o + r * 3 + 2, none⟩ = some (.slice xa x.kids.length xc)) w') := tuck fun w' h => ⟨h, ⟨Nat.lt_of_lt_of_le hg.facts.1 h.size, by have := h.size; have := hb.size; omega⟩, ⟨(hg.below h).facts.2.1, (hg.below h).facts.2.2.1, (hg.below h).facts.2.2.2.1⟩, HCELL.out _ (bAfter hb h)⟩
   clear hx hb hsx hg hvz hs c0 c1 c2 HCELL
   go_upto_region 5 with fail
   refine AnyTwo.begin (fun w' : World => Below wr.heap.size wr w' ∧ (g7 < w'.heap.size ∧ b < w'.heap.size) ∧ (w'.cell? ⟨g7, 0, none⟩ = some (.int .i64 T.kind) ∧ w'.cell? ⟨g7, 1, none⟩ = some (.int .i64 T.num) ∧ w'.cell? ⟨g7, 2, none⟩ = some (.slice ra T.kids.length rc)) ∧ w'.cell? ⟨b, o + r * 3, none⟩ = some (.int .i64 x.kind) ∧ w'.cell? ⟨b, o + r * 3 + 1, none⟩ = some (.int .i64 x.num) ∧ w'.cell? ⟨b, o + r * 3 + 2, none⟩ = some (.slice xa x.kids.length xc)) (fun _ => True) 9 (by kernel_rfl) ?_
   have hS1 : (fun w' : World => Below wr.heap.size wr w' ∧ (g7 < w'.heap.size ∧ b < w'.heap.size) ∧ (w'.cell? ⟨g7, 0, none⟩ = some (.int .i64 T.kind) ∧ w'.cell? ⟨g7, 1, none⟩ = some (.int .i64 T.num) ∧ w'.cell? ⟨g7, 2, none⟩ = some (.slice ra T.kids.length rc)) ∧ w'.cell? ⟨b, o + r * 3, none⟩ = some (.int .i64 x.kind) ∧ w'.cell? ⟨b, o + r * 3 + 1, none⟩ = some (.int .i64 x.num) ∧ w'.cell? ⟨b, o + r * 3 + 2, none⟩ = some (.slice xa x.kids.length xc)) _ := HOLD.out _ (Below.refl _ _).drew
   refine AnyTwo.take (i := 0) (oi := ⟨some 18, _, _, _, _, _⟩) (v := ?vr0) rfl (by kernel_rfl) (by kernel_rfl) (by decide +kernel) (by kernel_rfl) (by rfl) (by kernel_rfl) (fun _ _ _ h => h) (Or.inl ⟨by rfl, ?yr0⟩) hS1 ?rr0
   case yr0 => (intro w hSw; (try dsimp only at hSw); go_simp; try (with_reducible rfl))
   try simp only [Act.put, List.setIfInBounds_toArray, List.set_cons_zero, List.set_cons_succ]
   refine AnyTwo.take (i := 1) (oi := ⟨some 19, _, _, _, _, _⟩) (v := ?vr1) rfl (by kernel_rfl) (by kernel_rfl) (by decide +kernel) (by kernel_rfl) (by rfl) (by kernel_rfl) (fun _ _ _ h => h) (Or.inl ⟨by rfl, ?yr1⟩) hS1 ?rr1
   case yr1 => (intro w hSw; (try dsimp only at hSw); go_simp; try (with_reducible rfl))
   try simp only [Act.put, List.setIfInBounds_toArray, List.set_cons_zero, List.set_cons_succ]
   refine AnyTwo.take (i := 2) (oi := ⟨some 20, _, _, _, _, _⟩) (v := ?vr2) rfl (by kernel_rfl) (by kernel_rfl) (by decide +kernel) (by kernel_rfl) (by rfl) (by kernel_rfl) (fun _ _ _ h => h) (Or.inl ⟨by rfl, ?yr2⟩) hS1 ?rr2
   case yr2 => (intro w hSw; (try dsimp only at hSw); go_simp; try (with_reducible rfl))
   try simp only [Act.put, List.setIfInBounds_toArray, List.set_cons_zero, List.set_cons_succ]
   refine AnyTwo.take (i := 3) (oi := ⟨some 21, _, _, _, _, _⟩) (v := ?vr3) rfl (by kernel_rfl) (by kernel_rfl) (by decide +kernel) (by kernel_rfl) (by rfl) (by kernel_rfl) (fun _ _ _ h => h) (Or.inl ⟨by rfl, ?yr3⟩) hS1 ?rr3
   case yr3 => (intro w hSw; (try dsimp only at hSw); go_simp; try (with_reducible rfl))
   try simp only [Act.put, List.setIfInBounds_toArray, List.set_cons_zero, List.set_cons_succ]
   refine AnyTwo.take (i := 4) (oi := ⟨some 22, _, _, _, _, _⟩) (v := ?vr4) rfl (by kernel_rfl) (by kernel_rfl) (by decide +kernel) (by kernel_rfl) (by rfl) (by kernel_rfl) (fun _ _ _ h => h) (Or.inl ⟨by rfl, ?yr4⟩) hS1 ?rr4
   case yr4 => (intro w hSw; (try dsimp only at hSw); go_simp; try (with_reducible rfl))
   try simp only [Act.put, List.setIfInBounds_toArray, List.set_cons_zero, List.set_cons_succ]
   refine AnyTwo.take (i := 6) (oi := ⟨some 24, _, _, _, _, _⟩) (v := ?vr6) rfl (by kernel_rfl) (by kernel_rfl) (by decide +kernel) (by kernel_rfl) (by rfl) (by kernel_rfl) (fun _ _ _ h => h) (Or.inl ⟨by rfl, ?yr6⟩) hS1 ?rr6
   case yr6 => (intro w hSw; (try dsimp only at hSw); go_simp; try (with_reducible rfl))
   try simp only [Act.put, List.setIfInBounds_toArray, List.set_cons_zero, List.set_cons_succ]
   refine AnyTwo.step (i := 5) (o := ⟨some 23, _, _, _, _, _⟩) (by kernel_rfl) rfl (fun K hK => ?_)
   go_simp
   refine (HCX.out _ (bAfter HB.out hS1.1)).mono ?_
   rintro e w2 ⟨hb2, ya, yc, rfl, hs2⟩
   have hS1' : (fun w' : World => Below wr.heap.size wr w' ∧ (g7 < w'.heap.size ∧ b < w'.heap.size) ∧ (w'.cell? ⟨g7, 0, none⟩ = some (.int .i64 T.kind) ∧ w'.cell? ⟨g7, 1, none⟩ = some (.int .i64 T.num) ∧ w'.cell? ⟨g7, 2, none⟩ = some (.slice ra T.kids.length rc)) ∧ w'.cell? ⟨b, o + r * 3, none⟩ = some (.int .i64 x.kind) ∧ w'.cell? ⟨b, o + r * 3 + 1, none⟩ = some (.int .i64 x.num) ∧ w'.cell? ⟨b, o + r * 3 + 2, none⟩ = some (.slice xa x.kids.length xc)) _ := HOLD.out _ (bAfter hS1.1 hb2)
   refine hK.out _ _ (ph_one (by kernel_rfl) hS1') ?_
   clear hK K hS1
   have hS1 := hS1'
   clear hS1'
   try simp only [Act.put, List.setIfInBounds_toArray, List.set_cons_zero, List.set_cons_succ]
   refine AnyTwo.step (i := 7) (o := ⟨some 25, _, _, _, _, _⟩) (by kernel_rfl) rfl (fun K hK => ?_)
   go_simp
   have hbl := below1 w2 (.cells #[.int .i64 x.kind, .int .i64 x.num, .slice ya x.kids.length yc, .int .i64 T.kind, .int .i64 T.num, .slice ra T.kids.length rc] 29)
   have hblk := heap_new w2 (.cells #[.int .i64 x.kind, .int .i64 x.num, .slice ya x.kids.length yc, .int .i64 T.kind, .int .i64 T.num, .slice ra T.kids.length rc] 29)
   have hy := (SlX.of_sl (X := fun i => i < w.heap.size + 2 ∨ i = g7) hs2 (fun i hi => by have h1 := HZW.out; have h2 := (show wr.drew.heap.size = wr.heap.size from rfl); omega)).below hbl
   have hx := (HSX.out.below (bAfter hS1.1 hbl))
   have hS1' : (fun w' : World => Below wr.heap.size wr w' ∧ (g7 < w'.heap.size ∧ b < w'.heap.size) ∧ (w'.cell? ⟨g7, 0, none⟩ = some (.int .i64 T.kind) ∧ w'.cell? ⟨g7, 1, none⟩ = some (.int .i64 T.num) ∧ w'.cell? ⟨g7, 2, none⟩ = some (.slice ra T.kids.length rc)) ∧ w'.cell? ⟨b, o + r * 3, none⟩ = some (.int .i64 x.kind) ∧ w'.cell? ⟨b, o + r * 3 + 1, none⟩ = some (.int .i64 x.num) ∧ w'.cell? ⟨b, o + r * 3 + 2, none⟩ = some (.slice xa x.kids.length xc)) _ := HOLD.out _ (bAfter hS1.1 hbl)
   refine hK.out _ _ (ph_one (by kernel_rfl) hS1') ?_
   clear hK K hS1
   have hS1 := hS1'
   clear hS1'
   try simp only [Act.put, List.setIfInBounds_toArray, List.set_cons_zero, List.set_cons_succ]
   refine AnyTwo.step (i := 8) (o := ⟨some 26, _, _, _, _, _⟩) (by kernel_rfl) rfl (fun K hK => ?_)
   go_simp
   refine (nodeX_any k [(x, .slice ya x.kids.length yc), (T, .slice ra T.kids.length rc)] _ w2.heap.size 2 29 _ (fun i => i < w.heap.size + 2 ∨ i = g7) (fun i hi => by have h1 := HZW.out; have h2 := hS1.1.size; omega) (by simp) (by simp) hblk rfl (fun z hz => by
    simp only [List.mem_cons, List.not_mem_nil, or_false] at hz
    rcases hz with rfl | rfl
    ·exact hy
    ·exact hx)).mono ?_
   rintro e w3 ⟨hb3, na, nc, rfl, hs3⟩
   have hg3 := HGV.out.below (bAfter hS1.1 hb3)
   have hgf := hg3.facts.2.2.2.2
   have hS1' : (fun w' : World => Below wr.heap.size wr w' ∧ (g7 < w'.heap.size ∧ b < w'.heap.size) ∧ (w'.cell? ⟨g7, 0, none⟩ = some (.int .i64 T.kind) ∧ w'.cell? ⟨g7, 1, none⟩ = some (.int .i64 T.num) ∧ w'.cell? ⟨g7, 2, none⟩ = some (.slice ra T.kids.length rc)) ∧ w'.cell? ⟨b, o + r * 3, none⟩ = some (.int .i64 x.kind) ∧ w'.cell? ⟨b, o + r * 3 + 1, none⟩ = some (.int .i64 x.num) ∧ w'.cell? ⟨b, o + r * 3 + 2, none⟩ = some (.slice xa x.kids.length xc)) _ := HOLD.out _ (bAfter hS1.1 hb3)
   refine hK.out _ _ (ph_one (by kernel_rfl) hS1') ?_
   clear hK K hS1
   have hS1 := hS1'
   clear hS1'
   try simp only [Act.put, List.setIfInBounds_toArray, List.set_cons_zero, List.set_cons_succ]
   refine AnyTwo.step (i := 9) (o := ⟨none, _, _, _, _, _⟩) (by kernel_rfl) rfl (fun K hK => ?_)
   go_simp
   refine hK.out _ _ (ph_end (by kernel_rfl) trivial) ?_
   clear hK K
   try simp only [Act.put, List.setIfInBounds_toArray, List.set_cons_zero, List.set_cons_succ]
   refine AnyTwo.done (by kernel_rfl) ?_ _
   have HB3 := tuck (bAfter HB.out hS1.1)
   have HG3 := tuck hg3
   have HS3 := tuck hs3
   have HZ3 := tuck (HVZR.out.below hS1.1)
   clear hb3 hg3 hs3 hx hy hbl hblk hS1
   go_wp2_with fail
   go_roundw
   case rel =>
    refine ⟨r, na, nc, by omega, by go_num, ?_, ?_, ?_, ?_⟩
    ·exact bSet3 HB3.out (by omega) _ _ _ _ _ _
    ·exact HZ3.out.far3 (by omega) _ _ _ _ _ _
    ·rw [HOV.out]; exact HG3.out.set
    ·rw [HOV.out]; exact HS3.out.put (Or.inr rfl) _ _ _ _ _ _
   case measure => simp [intOf]
end Go.Proofs.Ytakdfpoigjgcnaa
