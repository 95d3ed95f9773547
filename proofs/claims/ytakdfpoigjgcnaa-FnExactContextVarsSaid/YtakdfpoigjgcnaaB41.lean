/-
  TeleH.
-/
import Derived.Test.YtakdfpoigjgcnaaB31
import Derived.Test.YtakdfpoigjgcnaaB37
import Derived.Test.YtakdfpoigjgcnaaB38
import Derived.Test.YtakdfpoigjgcnaaB40
namespace Go.Proofs.Ytakdfpoigjgcnaa
open Go.RowKit
theorem rowT_made (W : World) (base : Nat) (h : base ≤ W.heap.size) : RowT 0 base [] (.slice (some ⟨W.heap.size, 0, none⟩) 0 0) (W.alloc (.cells #[] 29)) := by
 have := World.ownsRow_made W #[] 0 (base := base) (e := 29) (size := 3) h (by simp [maxLen]) rfl
 exact ⟨[], rfl, by simpa [cellsL] using this, fun x h => by cases h⟩
set_option maxRecDepth 100000 in
set_option maxHeartbeats 3000000 in
theorem splitPiS_any (t : Tm) (n : Int) (w : World) (v : Value) (h : TmIn w 0 t v) : Calls Try.prog 23 #[v, .int .i64 n] w (LtPostS w (SplitOk t n) (sides 1 0 n.toNat t) (down 1 n.toNat t)) := by
 obtain ⟨s, rfl, hs⟩ := h
 obtain ⟨ta, tc, rfl⟩ := hs.form
 have HS := tuck hs
 have hb3 := below3 w (.cells #[.int .i64 t.kind, .int .i64 t.num, .slice ta t.kids.length tc] 29) (.cells #[.int .i64 0, .int .i64 0, .slice none 0 0] 29) (.cells #[] 29)
 have HV0 := tuck (((VarAt.new w t.kind t.num (.slice ta t.kids.length tc)).below (below1 _ (.cells #[.int .i64 0, .int .i64 0, .slice none 0 0] 29))).below (below1 _ (.cells #[] 29)))
 have HV1 := tuck ((var_new1 w (.cells #[.int .i64 t.kind, .int .i64 t.num, .slice ta t.kids.length tc] 29) 0 0 (.slice none 0 0)).below (below1 _ (.cells #[] 29)))
 have hz2 : w.heap.size + 2 = ((w.alloc (.cells #[.int .i64 t.kind, .int .i64 t.num, .slice ta t.kids.length tc] 29)).alloc (.cells #[.int .i64 0, .int .i64 0, .slice none 0 0] 29)).heap.size := by simp
 have hr0 := rowT_made ((w.alloc (.cells #[.int .i64 t.kind, .int .i64 t.num, .slice ta t.kids.length tc] 29)).alloc (.cells #[.int .i64 0, .int .i64 0, .slice none 0 0] 29)) (w.heap.size + 2) (Nat.le_of_eq hz2)
 rw [← hz2] at hr0
 have HR0 := tuck hr0
 have HB3 := tuck hb3
 have HZ3 : Hid (w.heap.size + 2 < (((w.alloc (.cells #[.int .i64 t.kind, .int .i64 t.num, .slice ta t.kids.length tc] 29)).alloc (.cells #[.int .i64 0, .int .i64 0, .slice none 0 0] 29)).alloc (.cells #[] 29)).heap.size) := tuck (by simp)
 have HNO : Hid (¬ SplitOk t n → ∀ w', Below w.heap.size w w' → LtPostS w (SplitOk t n) (sides 1 0 n.toNat t) (down 1 n.toNat t) (.returned (.tuple #[.slice (some ⟨w.heap.size + 1 + 1, 0, none⟩) 0 0, .agg #[.int .i64 0, .int .i64 0, .slice none 0 0], .bool false])) w') := tuck fun h w' hb => LtPostS.no h hb
 have HYES : Hid (SplitOk t n → ∀ w' a c b d, Below w.heap.size w w' → SlIn w' w.heap.size (sides 1 0 n.toNat t) (.slice a n.toNat c) → SlIn w' w.heap.size (down 1 n.toNat t).kids (.slice b (down 1 n.toNat t).kids.length d) → LtPostS w (SplitOk t n) (sides 1 0 n.toNat t) (down 1 n.toNat t) (.returned (.tuple #[.slice a n.toNat c, .agg #[.int .i64 (down 1 n.toNat t).kind, .int .i64 (down 1 n.toNat t).num, .slice b (down 1 n.toNat t).kids.length d], .bool true])) w') := tuck fun h w' a c b d h1 h2 h3 => by
  have := LtPostS.yes (l := sides 1 0 n.toNat t) (T := down 1 n.toNat t) (a := a) (c := c) (b := b) (d := d) h h1 (by rw [sides_length]; exact h2) h3
  rwa [sides_length] at this
 generalize hpost : LtPostS w (SplitOk t n) (sides 1 0 n.toNat t) (down 1 n.toNat t) = post at *
 clear hpost hb3 hz2 hs hr0
 go_enter Try.func23, Try.ntmps23
 by_cases hn0 : n < 0
 ·have HN := tuck (HNO.out fun h => by have := h.1; omega)
  obtain ⟨z1, r0, r1, r2, rf⟩ := HV1.out.facts
  go_wp2_with fail
  refine bodyPost_ret (v := .tuple #[.slice (some ⟨w.heap.size + 1 + 1, 0, none⟩) 0 0, .agg #[.int .i64 0, .int .i64 0, .slice none 0 0], .bool false]) (by simp [results, Try.results23, go_sem, *]) rfl (HN.out _ ?_)
  first | exact bSet3 HB3.out (Nat.le_succ _) _ _ _ _ _ _ | exact HB3.out
 by_cases hn8 : 8 < n
 ·have HN := tuck (HNO.out fun h => by have := h.2.1; omega)
  obtain ⟨z1, r0, r1, r2, rf⟩ := HV1.out.facts
  go_wp2_with fail
  refine bodyPost_ret (v := .tuple #[.slice (some ⟨w.heap.size + 1 + 1, 0, none⟩) 0 0, .agg #[.int .i64 0, .int .i64 0, .slice none 0 0], .bool false]) (by simp [results, Try.results23, go_sem, *]) rfl (HN.out _ ?_)
  first | exact bSet3 HB3.out (Nat.le_succ _) _ _ _ _ _ _ | exact HB3.out
 obtain ⟨m, hm⟩ : ∃ m : Nat, n = (m : Int) := ⟨n.toNat, by omega⟩
 subst hm
 have hm8 : m ≤ 8 := by omega
 rw [Int.toNat_natCast] at HYES
 obtain ⟨z0, a0, a1, a2, -⟩ := HV0.out.facts
 go_wp2_with fail
 generalize (((w.alloc (.cells #[.int .i64 t.kind, .int .i64 t.num, .slice ta t.kids.length tc] 29)).alloc (.cells #[.int .i64 0, .int .i64 0, .slice none 0 0] 29)).alloc (.cells #[] 29)) = W1 at *
 refine (countPiS_any t W1 _ ⟨_, rfl, HS.out.below HB3.out⟩).mono ?_
 rintro e w1 ⟨rfl, hb1⟩
 have HVT := tuck (HV0.out.below hb1)
 have HVR := tuck (HV1.out.below hb1)
 have HB := tuck (bAfter HB3.out hb1)
 have HRW := tuck (HR0.out.below hb1)
 have HZ := tuck (Nat.lt_of_lt_of_le HZ3.out hb1.size)
 clear hb1 HV0 HV1 HB3 z0 a0 a1 a2 HR0 HZ3
 obtain ⟨z0, a0, a1, a2, -⟩ := HVT.out.facts
 by_cases hc : cntPi t < (m : Int)
 ·have HN := tuck (HNO.out fun h => by have h4 := h.2.2.2; rw [cntPi_yes h.2.2.1] at hc; omega)
  obtain ⟨z1, r0, r1, r2, rf⟩ := HVR.out.facts
  generalize cntPi t = cn at *
  go_wp2_with fail
  refine bodyPost_ret (v := .tuple #[.slice (some ⟨w.heap.size + 1 + 1, 0, none⟩) 0 0, .agg #[.int .i64 0, .int .i64 0, .slice none 0 0], .bool false]) (by simp [results, Try.results23, go_sem, *]) rfl (HN.out _ ?_)
  first | exact bSet3 HB.out (Nat.le_succ _) _ _ _ _ _ _ | exact HB.out
 have HCR : Hid (t.Valid → (m : Int) ≤ (runs 3 1 30 t : Int)) := tuck fun hv => by rw [cntPi_yes hv] at hc; omega
 generalize cntPi t = cn at *
 go_wp2_with fail
 refine (validS_any t w1 _ ⟨_, rfl, HS.out.below HB.out⟩).mono ?_
 rintro e w2 ⟨rfl, hb2⟩
 replace HVT := tuck (HVT.out.below hb2)
 replace HVR := tuck (HVR.out.below hb2)
 replace HB := tuck (bAfter HB.out hb2)
 replace HRW := tuck (HRW.out.below hb2)
 replace HZ := tuck (Nat.lt_of_lt_of_le HZ.out hb2.size)
 clear hb2 z0 a0 a1 a2
 obtain ⟨z0, a0, a1, a2, -⟩ := HVT.out.facts
 by_cases hv : t.Valid
 rotate_left
 ·rw [tr_not hv]
  have HN := tuck (HNO.out fun h => hv h.2.2.1)
  obtain ⟨z1, r0, r1, r2, rf⟩ := HVR.out.facts
  go_wp2_with fail
  refine bodyPost_ret (v := .tuple #[.slice (some ⟨w.heap.size + 1 + 1, 0, none⟩) 0 0, .agg #[.int .i64 0, .int .i64 0, .slice none 0 0], .bool false]) (by simp [results, Try.results23, go_sem, *]) rfl (HN.out _ ?_)
  first | exact bSet3 HB.out (Nat.le_succ _) _ _ _ _ _ _ | exact HB.out
 rw [tr_of hv]
 have hrm := HCR.out hv
 have HY := tuck (HYES.out ⟨by omega, by omega, hv, hrm⟩)
 have HKA : Hid (∀ i, i < m → (down 1 i t).kind = 3) := tuck fun i hi => runs_kind 3 1 30 t i (by omega)
 have HTV := tuck hv
 clear HYES HNO HCR hv hrm
 go_wp2_with fail
 go_loopw [8, 7] (fun i out wr => ∃ (j : Nat) (vl : Value) (ra : Option Addr) (rc : Nat), j ≤ m ∧ i = .int .i64 (j : Int) ∧ out = vl ∧ Below w.heap.size w wr ∧ VarAt w.heap.size (down 1 j t).kind (down 1 j t).num (.slice ra (down 1 j t).kids.length rc) wr ∧ VarAt (w.heap.size + 1) 0 0 (.slice none 0 0) wr ∧ SlIn w 0 (down 1 j t).kids (.slice ra (down 1 j t).kids.length rc) ∧ RowT 0 (w.heap.size + 2) (sides 1 0 j t) vl wr) (fun i _ _ => m - (intOf i).toNat)
 case atStart => exact ⟨0, _, ta, tc, Nat.zero_le _, rfl, rfl, HB.out, HVT.out, HVR.out, HS.out, HRW.out⟩
 case round =>
  obtain ⟨j, vl, ra, rc, hj, rfl, rfl, hb, hg, hvz, hsT, hrow⟩ := hrel
  obtain ⟨va, vc, rfl⟩ := hrow.form' (sides_length 1 0 j t)
  have HLEN := tuck (sides_length 1 0 j t)
  have HDV := tuck (down_valid (show arity 3 = 2 by decide) (by decide) j t HTV.out (fun i hi => HKA.out i (by omega))).1
  have HSIDES := tuck (sides_succ 1 0 j t)
  have HDOWN := tuck (down_succ 1 j t)
  clear z0 a0 a1 a2
  have HB := tuck hb
  have HGV := tuck hg
  have HVZ := tuck hvz
  have HST := tuck hsT
  have HROW := tuck hrow
  clear hb hg hvz hsT hrow HVT HVR HRW HS
  by_cases hjm : j < m
  rotate_left
  ·have hji : ¬ ((j : Int) < (m : Int)) := by omega
   have hje : j = m := by omega
   have HD2 : Hid (Calls Try.prog 39 #[.agg #[.int .i64 (down 1 j t).kind, .int .i64 (down 1 j t).num, .slice ra (down 1 j t).kids.length rc]] wr (TlPost wr (down 1 j t))) := tuck (tl_copyS _ (by have := (valid_bounds HDV.out).1; omega) wr _ (HST.out.below HB.out))
   have hY2 := HY.out
   rw [← hje] at hY2
   have HY2 := tuck hY2
   clear hY2
   have hm4 : j ≤ maxLen := by unfold maxLen; omega
   have hrd := HROW.out.done' HLEN.out hm4
   have HRD := tuck hrd
   clear hrd HSIDES HDOWN
   generalize sides 1 0 j t = L at *
   generalize down 1 j t = T at *
   obtain ⟨z1, r0, r1, r2, rf⟩ := HGV.out.facts
   go_wp2_with fail
   refine HD2.out.mono ?_
   rintro e w5 ⟨hb5, pa, pc, rfl, hs5⟩
   obtain ⟨z5, q0, q1, q2, qf⟩ := (HVZ.out.below hb5).facts
   have HB5 := tuck (bAfter HB.out hb5)
   have HS5 := tuck hs5
   have HRD5 := tuck (HRD.out.below hb5)
   have HZR : Hid (w.heap.size + 1 < wr.heap.size) := tuck HVZ.out.facts.1
   clear hb5 hs5
   go_wp2_with fail
   refine bodyPost_ret (v := .tuple #[.slice va j vc, .agg #[.int .i64 T.kind, .int .i64 T.num, .slice pa T.kids.length pc], .bool true]) (by simp [results, Try.results23, go_sem, *]) rfl (HY2.out _ _ _ _ _ ?_ ?_ ?_)
   ·exact bSet3 HB5.out (Nat.le_succ _) _ _ _ _ _ _
   ·exact tl_from ((HRD5.out.put (g := w.heap.size + 1) ⟨Nat.zero_le _, by omega⟩ _ _ _ _ _ _).less fun i hi => ⟨Nat.zero_le _, by omega⟩)
   ·have hz := HZR.out
    exact (((HS5.out.setCell (p := ⟨w.heap.size + 1, 0, none⟩) hz _).setCell (p := ⟨w.heap.size + 1, 1, none⟩) hz _).setCell (p := ⟨w.heap.size + 1, 2, none⟩) hz _).mono (by omega)
  have hji : ((j : Int) < (m : Int)) := by omega
  have hkd := HKA.out j hjm
  have h2 := kid2_len HDV.out hkd (by decide)
  have hk0 : kidT (down 1 j t) 0 = (down 1 j t).kids[0]'(by omega) := kidT_eq (by omega)
  have hk1 : kidT (down 1 j t) 1 = (down 1 j t).kids[1]'(by omega) := kidT_eq (by omega)
  obtain ⟨a', c', b, ofs, hsl, -, hp', hc'⟩ := HST.out.open
  obtain ⟨rfl, -, hbw⟩ := hp' (by intro e; rw [e] at h2; simp at h2)
  obtain ⟨s0, c00, c01, c02, hs0⟩ := hc' 0 (by omega)
  obtain ⟨s1, c10, c11, c12, hs1⟩ := hc' 1 (by omega)
  obtain ⟨x0a, x0c, rfl⟩ := hs0.form
  obtain ⟨x1a, x1c, rfl⟩ := hs1.form
  simp only [Value.slice.injEq, true_and] at hsl
  obtain ⟨rfl, rfl⟩ := hsl
  have HDN := tuck (HDOWN.out.trans hk1)
  have HSD : Hid (sides 1 0 (j + 1) t = sides 1 0 j t ++ [(down 1 j t).kids[0]'(by omega)]) := tuck (by rw [HSIDES.out, hk0])
  have HC6 : Hid (∀ w', Below w.heap.size w w' → w'.cell? ⟨b, ofs, none⟩ = some (.int .i64 (((down 1 j t).kids[0]'(by omega)).kind)) ∧ w'.cell? ⟨b, ofs + 1, none⟩ = some (.int .i64 (((down 1 j t).kids[0]'(by omega)).num)) ∧ w'.cell? ⟨b, ofs + 2, none⟩ = some (.slice x0a (((down 1 j t).kids[0]'(by omega)).kids.length) x0c) ∧ w'.cell? ⟨b, ofs + 3, none⟩ = some (.int .i64 (((down 1 j t).kids[1]'(by omega)).kind)) ∧ w'.cell? ⟨b, ofs + 4, none⟩ = some (.int .i64 (((down 1 j t).kids[1]'(by omega)).num)) ∧ w'.cell? ⟨b, ofs + 5, none⟩ = some (.slice x1a (((down 1 j t).kids[1]'(by omega)).kids.length) x1c)) := tuck fun w' h =>
   ⟨(h.cell (p := ⟨b, ofs, none⟩) hbw).trans (by simpa using c00), (h.cell (p := ⟨b, ofs + 1, none⟩) hbw).trans (by simpa using c01), (h.cell (p := ⟨b, ofs + 2, none⟩) hbw).trans (by simpa using c02), (h.cell (p := ⟨b, ofs + 3, none⟩) hbw).trans (by simpa using c10), (h.cell (p := ⟨b, ofs + 4, none⟩) hbw).trans (by simpa using c11), (h.cell (p := ⟨b, ofs + 5, none⟩) hbw).trans (by simpa using c12)⟩
  have HKX := tuck hs0
  have HSN := tuck hs1
  have HT0 : Hid ((down 1 j t).kids.length = 2) := tuck h2
  have HVX : Hid (sizes ((down 1 j t).kids[0]'(by omega)).kids ≤ 1000000) := tuck (by have := (valid_bounds (HDV.out.get (i := 0) (by omega))).1; omega)
  clear hs0 hs1 hp' hc' HST hk0 hk1 HSIDES HDOWN c00 c01 c02 c10 c11 c12
  generalize (down 1 j t).kids[0]'(by omega) = y0 at *
  generalize (down 1 j t).kids[1]'(by omega) = y1 at *
  generalize hT : down 1 j t = T at *
  obtain ⟨z1, r0, r1, r2, rf⟩ := HGV.out.facts
  rw [h2] at r2
  obtain ⟨i0, hi0, hz0, hz1, hz2'⟩ := info_parts info_termG
  have HI0 := tuck hi0
  have HI1 := tuck hz0
  have HI2 := tuck hz1
  have HI3 := tuck hz2'
  have hzb : b < wr.heap.size := Nat.lt_of_lt_of_le hbw HB.out.size
  obtain ⟨d0, d1, d2, d3, d4, d5⟩ := HC6.out _ HB.out
  have HCX : Hid (Calls Try.prog 39 #[.agg #[.int .i64 y0.kind, .int .i64 y0.num, .slice x0a y0.kids.length x0c]] wr (TlPost wr y0)) := tuck (tl_copyS y0 HVX.out wr _ (HKX.out.below HB.out))
  clear hi0 hz0 hz1 hz2' h2 hT
  clear hkd
  go_wp2_with fail
  refine HCX.out.mono ?_
  rintro e w3 ⟨hb3, ua, uc, rfl, hs3⟩
  have hb3' := bAfter hb3 (below1 w3 (.cells #[.int .i64 y0.kind, .int .i64 y0.num, .slice ua y0.kids.length uc] 29))
  have HBK := tuck hb3'
  have HRK := tuck (HROW.out.below hb3')
  have HSX := tuck (hs3.below (below1 w3 (.cells #[.int .i64 y0.kind, .int .i64 y0.num, .slice ua y0.kids.length uc] 29)))
  obtain ⟨xs, hox, hpush⟩ := HRK.out.grow HLEN.out
  have HOX := tuck hox
  have HPUSH := tuck hpush
  have HLT := tuck HROW.out.lt
  have hq4 : j + 1 ≤ maxLen := by unfold maxLen; omega
  have hqb : (j + 1) * 40 ≤ 140737488355328 := by omega
  have HWB : Hid (w.heap.size + 2 ≤ w3.heap.size) := tuck (by have := hb3.size; have := HVZ.out.facts.1; omega)
  have HWR : Hid (w.heap.size + 2 ≤ wr.heap.size) := tuck (by have := HVZ.out.facts.1; omega)
  clear hox hpush hb3' hb3 hs3 HCX z1 r0 r1 r2 rf d0 d1 d2 d3 d4 d5
  go_wp2_with (at_builtin; refine wpList_append_lies _ rfl _ _ _ rfl (w.heap.size + 2) 29 i0 _ 3 40 Try.underlying27 HI0.out HI1.out HI2.out HI3.out rfl (by omega) _ _ _ rfl HOX.out ⟨w3.heap.size, 0, none⟩ 1 1 [.int .i64 y0.kind, .int .i64 y0.num, .slice ua y0.kids.length uc] rfl rfl ?news ?one (by omega) hq4 hqb ?base (w3.heap.size + 1) ?size ?next)
  case news => exact World.news_of_block (cs := #[.int .i64 y0.kind, .int .i64 y0.num, .slice ua y0.kids.length uc]) (t := 29) (fr := (0, 0)) (heap_new w3 _)
  case one => simp [Value.oneCell']
  case base => have := HWB.out; simp; omega
  case size => simp
  case next =>
   intro gg gcap w4 hown4 hgrow hat hlt4
   have HGR := tuck hgrow
   have HOWN := tuck hown4
   have HAT := tuck hat
   have hb4 : Below w.heap.size w w4 := (bAfter HB.out HBK.out).grown hgrow (bAfter HB.out HBK.out).size (fun g hg => by have := (HLT.out g hg).1; omega)
   have hg4 : VarAt w.heap.size T.kind T.num (.slice (some ⟨b, ofs, none⟩) T.kids.length rc) w4 := (HGV.out.below HBK.out).grown hgrow (fun e => by have := (HLT.out w.heap.size e.symm).1; omega)
   have hv4 : VarAt (w.heap.size + 1) 0 0 (.slice none 0 0) w4 := (HVZ.out.below HBK.out).grown hgrow (fun e => by have := (HLT.out (w.heap.size + 1) e.symm).1; omega)
   have HB4 := tuck hb4
   have HG4 := tuck hg4
   have HV4 := tuck hv4
   obtain ⟨d0, d1, d2, d3, d4, d5⟩ := HC6.out _ hb4
   obtain ⟨z4, q0, q1, q2, qf⟩ := hg4.facts
   rw [HT0.out] at q2
   have hz4 : b < w4.heap.size := Nat.lt_of_lt_of_le hbw hb4.size
   clear hgrow hown4 hat hb4 hg4 hv4
   go_wp2_with fail
   go_roundw
   case rel =>
    refine ⟨j + 1, .slice (some ⟨gg, 0, none⟩) (j + 1) gcap, x1a, x1c, by omega, by go_num, rfl, ?_, ?_, ?_, ?_, ?_⟩
    ·exact bSet3 HB4.out (Nat.le_refl _) _ _ _ _ _ _
    ·rw [HDN.out]; exact HG4.out.set
    ·exact HV4.out.far3 (by omega) _ _ _ _ _ _
    ·rw [HDN.out]; exact HSN.out
    ·rw [HSD.out]
     have hr4 := HPUSH.out _ _ w4 y0 (SlX.of_sl HSX.out (fun i hi => by
      have h1 := HWR.out
      rcases hi with hi | hi
      ·omega
      ·exact (HLT.out i hi).2)) HOWN.out HGR.out (HAT.out.imp (fun h => h.symm) (fun h => by rw [h]; simp [Value.ownBlock]))
     exact ((hr4.setCell (p := ⟨w.heap.size, 0, none⟩) (Nat.zero_le _) (by simp) _).setCell (p := ⟨w.heap.size, 1, none⟩) (Nat.zero_le _) (by simp) _).setCell (p := ⟨w.heap.size, 2, none⟩) (Nat.zero_le _) (by simp) _
   case measure => simp [intOf]; omega
end Go.Proofs.Ytakdfpoigjgcnaa
