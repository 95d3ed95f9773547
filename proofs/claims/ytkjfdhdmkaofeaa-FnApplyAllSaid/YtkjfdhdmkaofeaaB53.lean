/-
  TeleJ.
-/
import Derived.Test.YtkjfdhdmkaofeaaB49
import Derived.Test.YtkjfdhdmkaofeaaB52
namespace Go.Proofs.Ytkjfdhdmkaofeaa
open Go.RowKit
set_option maxRecDepth 100000 in
set_option maxHeartbeats 3000000 in
theorem splitAppS_any (t : Tm) (w : World) (v : Value) (h : TmIn w 0 t v) : Calls Try.prog 13 #[v] w (TlPost2S w t.Valid ((sides 0 1 (runs 5 0 30 t) t).reverse) ((down 0 (runs 5 0 30 t) t))) := by
 obtain ⟨s, rfl, hs⟩ := h
 obtain ⟨ta, tc, rfl⟩ := hs.form
 have HS := tuck hs
 have hb3 := below3 w (.cells #[.int .i64 t.kind, .int .i64 t.num, .slice ta t.kids.length tc] 25) (.cells #[.int .i64 0, .int .i64 0, .slice none 0 0] 25) (.cells #[] 25)
 have HV0 := tuck (((VarAt.new w t.kind t.num (.slice ta t.kids.length tc)).below (below1 _ (.cells #[.int .i64 0, .int .i64 0, .slice none 0 0] 25))).below (below1 _ (.cells #[] 25)))
 have HV1 := tuck ((var_new1 w (.cells #[.int .i64 t.kind, .int .i64 t.num, .slice ta t.kids.length tc] 25) 0 0 (.slice none 0 0)).below (below1 _ (.cells #[] 25)))
 have hz2 : w.heap.size + 2 = ((w.alloc (.cells #[.int .i64 t.kind, .int .i64 t.num, .slice ta t.kids.length tc] 25)).alloc (.cells #[.int .i64 0, .int .i64 0, .slice none 0 0] 25)).heap.size := by simp
 have hr0 := rowT_made ((w.alloc (.cells #[.int .i64 t.kind, .int .i64 t.num, .slice ta t.kids.length tc] 25)).alloc (.cells #[.int .i64 0, .int .i64 0, .slice none 0 0] 25)) (w.heap.size + 2) (Nat.le_of_eq hz2)
 rw [← hz2] at hr0
 have HR0 := tuck hr0
 have HB3 := tuck hb3
 have HZ3 : Hid (w.heap.size + 2 < (((w.alloc (.cells #[.int .i64 t.kind, .int .i64 t.num, .slice ta t.kids.length tc] 25)).alloc (.cells #[.int .i64 0, .int .i64 0, .slice none 0 0] 25)).alloc (.cells #[] 25)).heap.size) := tuck (by simp)
 have HNO : Hid (¬ t.Valid → ∀ w', Below w.heap.size w w' → TlPost2S w t.Valid ((sides 0 1 (runs 5 0 30 t) t).reverse) ((down 0 (runs 5 0 30 t) t)) (.returned (.tuple #[.agg #[.int .i64 0, .int .i64 0, .slice none 0 0], .slice (some ⟨w.heap.size + 1 + 1, 0, none⟩) 0 0, .bool false])) w') := tuck fun h w' hb => TlPost2S.no h hb
 have HYES : Hid (t.Valid → ∀ j w' a c b d, (runs 5 0 30 t) = j → Below w.heap.size w w' → SlIn w' w.heap.size (sides 0 1 j t).reverse (.slice a j c) → SlIn w' w.heap.size (down 0 j t).kids (.slice b (down 0 j t).kids.length d) → TlPost2S w t.Valid ((sides 0 1 (runs 5 0 30 t) t).reverse) ((down 0 (runs 5 0 30 t) t)) (.returned (.tuple #[.agg #[.int .i64 (down 0 j t).kind, .int .i64 (down 0 j t).num, .slice b (down 0 j t).kids.length d], .slice a j c, .bool true])) w') := tuck fun h j w' a c b d e h1 h2 h3 => by
  subst e
  have := TlPost2S.yes (l := (sides 0 1 (runs 5 0 30 t) t).reverse) (T := (down 0 (runs 5 0 30 t) t)) (a := a) (c := c) (b := b) (d := d) h h1 (by rw [List.length_reverse, sides_length]; exact h2) h3
  rwa [List.length_reverse, sides_length] at this
 generalize hpost : TlPost2S w t.Valid ((sides 0 1 (runs 5 0 30 t) t).reverse) ((down 0 (runs 5 0 30 t) t)) = post at *
 clear hpost hb3 hz2 hs hr0
 go_enter Try.func13, Try.ntmps13
 obtain ⟨z0, a0, a1, a2, -⟩ := HV0.out.facts
 go_wp2_with fail
 generalize (((w.alloc (.cells #[.int .i64 t.kind, .int .i64 t.num, .slice ta t.kids.length tc] 25)).alloc (.cells #[.int .i64 0, .int .i64 0, .slice none 0 0] 25)).alloc (.cells #[] 25)) = W1 at *
 refine (validS_any t W1 _ ⟨_, rfl, HS.out.below HB3.out⟩).mono ?_
 rintro e w1 ⟨rfl, hb1⟩
 have HVT := tuck (HV0.out.below hb1)
 have HVR := tuck (HV1.out.below hb1)
 have HB := tuck (bAfter HB3.out hb1)
 have HRW := tuck (HR0.out.below hb1)
 have HZ := tuck (Nat.lt_of_lt_of_le HZ3.out hb1.size)
 clear hb1 HV0 HV1 HB3 z0 a0 a1 a2 HR0 HZ3
 by_cases hv : t.Valid
 rotate_left
 ·rw [tr_not hv]
  have HN := tuck (HNO.out hv)
  obtain ⟨z1, r0, r1, r2, rf⟩ := HVR.out.facts
  go_wp2_with fail
  refine bodyPost_ret (v := .tuple #[.agg #[.int .i64 0, .int .i64 0, .slice none 0 0], .slice (some ⟨w.heap.size + 1 + 1, 0, none⟩) 0 0, .bool false]) (by simp [results, Try.results13, go_sem, *]) rfl (HN.out _ ?_)
  first | exact bSet3 HB.out (Nat.le_succ _) _ _ _ _ _ _ | exact HB.out
 rw [tr_of hv]
 have HY := tuck (HYES.out hv)
 have HTV := tuck hv
 clear HYES HNO hv
 go_wp2_with fail
 go_loopw [5] (fun out wr => ∃ (j gv : Nat) (vc : Nat) (ra : Option Addr) (rc : Nat), j ≤ 30 ∧ (∀ i, i < j → (down 0 i t).kind = 5) ∧ out = .slice (some ⟨gv, 0, none⟩) j vc ∧ Below w.heap.size w wr ∧ VarAt w.heap.size (down 0 j t).kind (down 0 j t).num (.slice ra (down 0 j t).kids.length rc) wr ∧ VarAt (w.heap.size + 1) 0 0 (.slice none 0 0) wr ∧ SlIn w 0 (down 0 j t).kids (.slice ra (down 0 j t).kids.length rc) ∧ RowT 0 (w.heap.size + 2) (sides 0 1 j t).reverse (.slice (some ⟨gv, 0, none⟩) j vc) wr) (fun out _ => 30 - slLen out)
 case atStart => exact ⟨0, w.heap.size + 2, 0, ta, tc, Nat.zero_le _, fun i h => absurd h (Nat.not_lt_zero _), rfl, HB.out, HVT.out, HVR.out, HS.out, HRW.out⟩
 case round =>
  obtain ⟨j, gv, vc, ra, rc, hj, hkind, rfl, hb, hg, hvz, hsT, hrow⟩ := hrel
  have HLEN : Hid ((sides 0 1 j t).reverse.length = j) := tuck (by rw [List.length_reverse, sides_length])
  have hdv := down_valid (o := 0) (show arity 5 = 2 by decide) (by decide) j t HTV.out hkind
  have HDV := tuck hdv.1
  have hj29 : j ≤ 29 := by
   have h1 := hdv.2
   have h2 := hgt_pos (down 0 j t)
   have h3 := HTV.out.2.1
   omega
  have HSIDES := tuck (sides_succ 0 1 j t)
  have HDOWN := tuck (down_succ 0 j t)
  have HKIND := tuck hkind
  have HB := tuck hb
  have HGV := tuck hg
  have HVZ := tuck hvz
  have HST := tuck hsT
  have HROW := tuck hrow
  clear hb hg hvz hsT hrow HVT HVR HRW HS hdv hkind
  by_cases hkd : (down 0 j t).kind = 5
  rotate_left
  ·have hne : ((down 0 j t).kind == 5) = false := by simpa using hkd
   have HD2 : Hid (Calls Try.prog 22 #[.agg #[.int .i64 (down 0 j t).kind, .int .i64 (down 0 j t).num, .slice ra (down 0 j t).kids.length rc]] wr (TlPost wr (down 0 j t))) := tuck (tl_copyS _ (by have := (valid_bounds HDV.out).1; omega) wr _ (HST.out.below HB.out))
   have hY2 := HY.out j
   have HR : Hid ((runs 5 0 30 t) = j) := tuck (runs_of 5 0 30 j t (by omega) HKIND.out (Or.inr hkd))
   have hm4 : j ≤ maxLen := by unfold maxLen; omega
   have hrd := HROW.out.done' HLEN.out hm4
   have HRD := tuck hrd
   have HY2 := tuck hY2
   clear hrd HSIDES HDOWN hkd hY2
   generalize (sides 0 1 j t).reverse = L at *
   generalize down 0 j t = T at *
   obtain ⟨z1, r0, r1, r2, rf⟩ := HGV.out.facts
   go_wp2_with fail
   refine HD2.out.mono ?_
   rintro e w5 ⟨hb5, pa, pc, rfl, hs5⟩
   obtain ⟨z5, q0, q1, q2, qf⟩ := (HVZ.out.below hb5).facts
   have HB5 := tuck (bAfter HB.out hb5)
   have HS5 := tuck hs5
   have HRD5 := tuck (HRD.out.below hb5)
   have HZR : Hid (w.heap.size + 1 < wr.heap.size) := tuck HVZ.out.facts.1
   clear hb5 hs5
   go_wp2_with fail
   refine bodyPost_ret (v := .tuple #[.agg #[.int .i64 T.kind, .int .i64 T.num, .slice pa T.kids.length pc], .slice (some ⟨gv, 0, none⟩) j vc, .bool true]) (by simp [results, Try.results13, go_sem, *]) rfl (HY2.out _ _ _ _ _ HR.out ?_ ?_ ?_)
   ·exact bSet3 HB5.out (Nat.le_succ _) _ _ _ _ _ _
   ·exact tl_from ((HRD5.out.put (g := w.heap.size + 1) ⟨Nat.zero_le _, by omega⟩ _ _ _ _ _ _).less fun i hi => ⟨Nat.zero_le _, by omega⟩)
   ·have hz := HZR.out
    exact (((HS5.out.setCell (p := ⟨w.heap.size + 1, 0, none⟩) hz _).setCell (p := ⟨w.heap.size + 1, 1, none⟩) hz _).setCell (p := ⟨w.heap.size + 1, 2, none⟩) hz _).mono (by omega)
  have hkq : ((down 0 j t).kind == 5) = true := by simpa using hkd
  have h2 := kid2_len HDV.out hkd (by decide)
  have hk0 : kidT (down 0 j t) 0 = (down 0 j t).kids[0]'(by omega) := kidT_eq (by omega)
  have hk1 : kidT (down 0 j t) 1 = (down 0 j t).kids[1]'(by omega) := kidT_eq (by omega)
  have HKJ : Hid (∀ i, i < j + 1 → (down 0 i t).kind = 5) := tuck fun i hi => by
   by_cases e : i = j
   ·subst e; exact hkd
   ·exact HKIND.out i (by omega)
  obtain ⟨a', c', b, ofs, hsl, -, hp', hc'⟩ := HST.out.open
  obtain ⟨rfl, -, hbw⟩ := hp' (by intro e; rw [e] at h2; simp at h2)
  obtain ⟨s0, c00, c01, c02, hs0⟩ := hc' 0 (by omega)
  obtain ⟨s1, c10, c11, c12, hs1⟩ := hc' 1 (by omega)
  obtain ⟨x0a, x0c, rfl⟩ := hs0.form
  obtain ⟨x1a, x1c, rfl⟩ := hs1.form
  simp only [Value.slice.injEq, true_and] at hsl
  obtain ⟨rfl, rfl⟩ := hsl
  have HDN := tuck (HDOWN.out.trans hk0)
  have HSD : Hid (sides 0 1 (j + 1) t = sides 0 1 j t ++ [(down 0 j t).kids[1]'(by omega)]) := tuck (by rw [HSIDES.out, hk1])
  have HC6 : Hid (∀ w', Below w.heap.size w w' → w'.cell? ⟨b, ofs, none⟩ = some (.int .i64 (((down 0 j t).kids[0]'(by omega)).kind)) ∧ w'.cell? ⟨b, ofs + 1, none⟩ = some (.int .i64 (((down 0 j t).kids[0]'(by omega)).num)) ∧ w'.cell? ⟨b, ofs + 2, none⟩ = some (.slice x0a (((down 0 j t).kids[0]'(by omega)).kids.length) x0c) ∧ w'.cell? ⟨b, ofs + 3, none⟩ = some (.int .i64 (((down 0 j t).kids[1]'(by omega)).kind)) ∧ w'.cell? ⟨b, ofs + 4, none⟩ = some (.int .i64 (((down 0 j t).kids[1]'(by omega)).num)) ∧ w'.cell? ⟨b, ofs + 5, none⟩ = some (.slice x1a (((down 0 j t).kids[1]'(by omega)).kids.length) x1c)) := tuck fun w' h =>
   ⟨(h.cell (p := ⟨b, ofs, none⟩) hbw).trans (by simpa using c00), (h.cell (p := ⟨b, ofs + 1, none⟩) hbw).trans (by simpa using c01), (h.cell (p := ⟨b, ofs + 2, none⟩) hbw).trans (by simpa using c02), (h.cell (p := ⟨b, ofs + 3, none⟩) hbw).trans (by simpa using c10), (h.cell (p := ⟨b, ofs + 4, none⟩) hbw).trans (by simpa using c11), (h.cell (p := ⟨b, ofs + 5, none⟩) hbw).trans (by simpa using c12)⟩
  have HKX := tuck hs1
  have HSN := tuck hs0
  have HT0 : Hid ((down 0 j t).kids.length = 2) := tuck h2
  have HVX : Hid (sizes ((down 0 j t).kids[1]'(by omega)).kids ≤ 1000000) := tuck (by have := (valid_bounds (HDV.out.get (i := 1) (by omega))).1; omega)
  clear hs0 hs1 hp' hc' HST hk0 hk1 HSIDES HDOWN c00 c01 c02 c10 c11 c12
  generalize (down 0 j t).kids[0]'(by omega) = y0 at *
  generalize (down 0 j t).kids[1]'(by omega) = y1 at *
  generalize hT : down 0 j t = T at *
  obtain ⟨z1, r0, r1, r2, rf⟩ := HGV.out.facts
  rw [h2] at r2
  obtain ⟨i0, hi0, hz0, hz1, hz2'⟩ := info_parts info_termG
  have HI0 := tuck hi0
  have HI1 := tuck hz0
  have HI2 := tuck hz1
  have HI3 := tuck hz2'
  have hzb : b < wr.heap.size := Nat.lt_of_lt_of_le hbw HB.out.size
  obtain ⟨d0, d1, d2, d3, d4, d5⟩ := HC6.out _ HB.out
  have HCX : Hid (Calls Try.prog 22 #[.agg #[.int .i64 y1.kind, .int .i64 y1.num, .slice x1a y1.kids.length x1c]] wr (TlPost wr y1)) := tuck (tl_copyS y1 HVX.out wr _ (HKX.out.below HB.out))
  clear hi0 hz0 hz1 hz2' h2 hT
  clear hkd
  go_wp2_with fail
  refine HCX.out.mono ?_
  rintro e w3 ⟨hb3, ua, uc, rfl, hs3⟩
  have hbl := below1 w3 (.cells #[.int .i64 y1.kind, .int .i64 y1.num, .slice ua y1.kids.length uc] 25)
  have HB3 := tuck hb3
  have HBL := tuck hbl
  have HS3 := tuck hs3
  obtain ⟨rs, hrs, hown0, hrx⟩ := HROW.out
  have hrl : rs.length = j := by rw [← HLEN.out, ← hrs, List.length_map]
  have HRX := tuck hrx
  have HRS := tuck hrs
  have HRL := tuck hrl
  have hnews : ∀ i u, (cellsL rs)[i]? = some u → (w3.alloc (.cells #[.int .i64 y1.kind, .int .i64 y1.num, .slice ua y1.kids.length uc] 25)).cell? ((⟨gv, 0, none⟩ : Addr).add i) = some u := fun i u hu => by
   have h1 := hown0.cells (g := gv) rfl i u hu
   exact ((bAfter hb3 hbl).cell (World.block_lt_of_cell? wr _ h1)).trans h1
  have HNEWS := tuck hnews
  have HOX : Hid ((w3.alloc (.cells #[.int .i64 y1.kind, .int .i64 y1.num, .slice ua y1.kids.length uc] 25)).ownsRow w3.heap.size 25 3 (.slice (some ⟨w3.heap.size, 0, none⟩) 1 1) 1 [.int .i64 y1.kind, .int .i64 y1.num, .slice ua y1.kids.length uc]) := tuck ⟨rfl, Or.inr ⟨w3.heap.size, 1, _, rfl, Nat.le_refl _, heap_new _ _, Nat.le_refl _, by simp [maxLen], rfl, rfl⟩⟩
  have HONE : Hid (∀ u ∈ cellsL rs, u.oneCell' = true) := tuck (cellsL_one (B := 0) (w := mask wr (OffT 0 (w.heap.size + 2) (.slice (some ⟨gv, 0, none⟩) j vc))) hrx)
  have hq4 : 1 + j ≤ maxLen := by unfold maxLen; omega
  have hqb : (1 + j) * 40 ≤ 140737488355328 := by omega
  have HWB : Hid (w.heap.size + 2 ≤ wr.heap.size ∧ wr.heap.size ≤ w3.heap.size) := tuck (by have h1 := hb3.size; have h2 := HVZ.out.facts.1; omega)
  clear hnews hown0 hrx hrs hrl hbl hb3 hs3 HCX z1 r0 r1 r2 rf d0 d1 d2 d3 d4 d5
  go_wp2_with (at_builtin; refine wpList_append_own _ rfl _ _ _ rfl w3.heap.size 25 i0 _ 3 40 Try.underlying23 HI0.out HI1.out HI2.out HI3.out rfl (by omega) _ _ _ rfl HOX.out ⟨gv, 0, none⟩ j vc (cellsL rs) rfl ?len HNEWS.out HONE.out hq4 hqb ?base ?next)
  case len => rw [cellsL_length, HRL.out]
  case base => simp
  case next =>
   intro v4 w4 hown4 hgrow hnil
   have hgr' : (w3.alloc (.cells #[.int .i64 y1.kind, .int .i64 y1.num, .slice ua y1.kids.length uc] 25)).grownBy w4 (some w3.heap.size) := hgrow
   obtain ⟨gg, gcap, cur, rfl, hgg, hgc, hgn, hgm, hgs, hgt⟩ : ∃ gg gcap cur, v4 = .slice (some ⟨gg, 0, none⟩) (1 + j) gcap ∧ w3.heap.size ≤ gg ∧ w4.heap[gg]? = some (.cells cur 25 (0, 0)) ∧ 1 + j ≤ gcap ∧ gcap ≤ maxLen ∧ cur.size = gcap * 3 ∧ cur.toList.take ((1 + j) * 3) = [.int .i64 y1.kind, .int .i64 y1.num, .slice ua y1.kids.length uc] ++ cellsL rs := by
    rcases hown4.2 with ⟨-, h0⟩ | h
    ·omega
    ·exact h
   have hbw4 : Below w.heap.size w w4 := (bAfter HB.out (bAfter HB3.out HBL.out)).grown hgrow (bAfter HB.out (bAfter HB3.out HBL.out)).size (fun g hg => by
    have h1 : some w3.heap.size = some g := hg
    injection h1 with h1
    have h2 := HWB.out
    omega)
   have hg4 : VarAt w.heap.size T.kind T.num (.slice (some ⟨b, ofs, none⟩) T.kids.length rc) w4 := (HGV.out.below (bAfter HB3.out HBL.out)).grown hgr' (fun e => by injection e with e; have := HWB.out; omega)
   have hv4 : VarAt (w.heap.size + 1) 0 0 (.slice none 0 0) w4 := (HVZ.out.below (bAfter HB3.out HBL.out)).grown hgr' (fun e => by injection e with e; have := HWB.out; omega)
   have hrow4 : RowT 0 (w.heap.size + 2) (y1 :: (sides 0 1 j t).reverse) (.slice (some ⟨gg, 0, none⟩) (1 + j) gcap) w4 := by
    refine ⟨(y1, .slice ua y1.kids.length uc) :: rs, by rw [List.map_cons, HRS.out], ⟨by rw [cellsL_length, List.length_cons, List.length_cons, HLEN.out, HRL.out], Or.inr ⟨gg, gcap, cur, by rw [List.length_cons, HLEN.out, Nat.add_comm], by have := HWB.out; omega, hgc, by rw [List.length_cons, HLEN.out]; omega, hgm, hgs, ?_⟩⟩, fun x hx => ?_⟩
    ·rw [List.length_cons, HLEN.out, Nat.add_comm j 1, hgt]
     rfl
    ·have hwb := HWB.out
     rcases List.mem_cons.1 hx with rfl | hx
     ·exact (SlX.of_sl (X := fun i => i < wr.heap.size) HS3.out (fun i hi => hi)).to fun p u hn hc => by
       have hp := World.block_lt_of_cell? w3 p hc
       refine ⟨fun h => ?_, (World.cell?_of_block (hgr'.block p.block (by simp; omega) (fun e => by injection e with e; omega))).trans ((HBL.out.cell hp).trans hc)⟩
       rcases h with h | h
       ·exact hn (show p.block < wr.heap.size by omega)
       ·have h1 : some gg = some p.block := h
        injection h1 with h1
        omega
     ·exact (HRX.out x hx).to fun p u hn hc => by
       have hp := World.block_lt_of_cell? wr p hc
       have hp3 : p.block < w3.heap.size := by omega
       refine ⟨fun h => ?_, (World.cell?_of_block (hgr'.block p.block (by simp; omega) (fun e => by injection e with e; omega))).trans (((bAfter HB3.out HBL.out).cell hp).trans hc)⟩
       rcases h with h | h
       ·exact hn (Or.inl h)
       ·have h1 : some gg = some p.block := h
        injection h1 with h1
        omega
   have HB4 := tuck hbw4
   have HG4 := tuck hg4
   have HV4 := tuck hv4
   have HROW4 := tuck hrow4
   obtain ⟨d0, d1, d2, d3, d4, d5⟩ := HC6.out _ hbw4
   obtain ⟨z4, q0, q1, q2, qf⟩ := hg4.facts
   rw [HT0.out] at q2
   have hz4 : b < w4.heap.size := Nat.lt_of_lt_of_le hbw hbw4.size
   clear hgrow hown4 hbw4 hg4 hv4 hrow4 hgr' hnil hgc hgn hgm hgs hgt hgg
   go_wp2_with fail
   go_roundw
   case rel =>
    refine ⟨j + 1, gg, gcap, x0a, x0c, by omega, HKJ.out, by rw [Nat.add_comm], ?_, ?_, ?_, ?_, ?_⟩
    ·exact bSet3 HB4.out (Nat.le_refl _) _ _ _ _ _ _
    ·rw [HDN.out]; exact HG4.out.set
    ·exact HV4.out.far3 (by omega) _ _ _ _ _ _
    ·rw [HDN.out]; exact HSN.out
    ·rw [HSD.out, List.reverse_append, Nat.add_comm j 1]
     exact ((HROW4.out.setCell (p := ⟨w.heap.size, 0, none⟩) (Nat.zero_le _) (by simp) _).setCell (p := ⟨w.heap.size, 1, none⟩) (Nat.zero_le _) (by simp) _).setCell (p := ⟨w.heap.size, 2, none⟩) (Nat.zero_le _) (by simp) _
   case measure => simp [slLen]; omega
end Go.Proofs.Ytkjfdhdmkaofeaa
