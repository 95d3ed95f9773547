/-
  PlK.
-/
import Derived.Test.YtleijaegpfjnpaaB41
import Derived.Test.YtleijaegpfjnpaaB55
import Derived.Test.YtleijaegpfjnpaaB58
import Derived.BigQuiet
import Derived.Deep.QuietTactic
namespace Go.Proofs.Ytleijaegpfjnpaa
open Go.RowKit
def LsPost (w : World) (P : Prop) (l : List Tm) (e : Ending) (w' : World) : Prop := Below w.heap.size w w' ∧ ∃ (a : Option Addr) (c : Nat), e = .returned (.tuple #[.slice a (orNil P l).length c, .bool (tr P)]) ∧ SlIn w' w.heap.size (orNil P l) (.slice a (orNil P l).length c)
theorem LsPost.no {w w' : World} {P : Prop} {l : List Tm} {a : Option Addr} {c : Nat} (hP : ¬ P) (hb : Below w.heap.size w w') : LsPost w P l (.returned (.tuple #[.slice a 0 c, .bool false])) w' := by
 have e : orNil P l = [] := by unfold orNil; rw [if_neg hP]
 refine ⟨hb, a, c, ?_, ?_⟩
 ·rw [e, tr_not hP]; rfl
 ·rw [e]; exact SlIn.nil _ _ _ _
theorem LsPost.yes {w w' : World} {P : Prop} {l : List Tm} {a : Option Addr} {c : Nat} (hP : P) (hb : Below w.heap.size w w') (hs : SlIn w' w.heap.size l (.slice a l.length c)) : LsPost w P l (.returned (.tuple #[.slice a l.length c, .bool true])) w' := by
 have e : orNil P l = l := by unfold orNil; rw [if_pos hP]
 refine ⟨hb, a, c, ?_, ?_⟩
 ·rw [e, tr_of hP]
 ·rw [e]; exact hs
theorem RowT.put {Z base : Nat} {l : List Tm} {v : Value} {w : World} (h : RowT Z base l v w) {g : Nat} (hg : Z ≤ g ∧ g < base) (i j k : Nat) (x y z : Value) : RowT Z base l v (((w.setCell ⟨g, i, none⟩ x).setCell ⟨g, j, none⟩ y).setCell ⟨g, k, none⟩ z) :=
 ((h.setCell (p := ⟨g, i, none⟩) hg.1 hg.2 x).setCell (p := ⟨g, j, none⟩) hg.1 hg.2 y).setCell (p := ⟨g, k, none⟩) hg.1 hg.2 z
theorem RowT.drew {Z base : Nat} {l : List Tm} {v : Value} {w : World} (h : RowT Z base l v w) (n : Nat) : RowT Z base l v (w.drewN n) := h.below (bDrewN (Below.refl _ _) n)
set_option maxRecDepth 100000 in
set_option maxHeartbeats 6000000 in
theorem contextS_any (l : List Tm) (t : Tm) (N : Int → Int) (len : Nat) (hlen : len ≤ 1048576) (w : World) (vl vt vp : Value) (hl : SlIn w 0 l vl) (ht : TmIn w 0 t vt) (hp : Ints w 0 N len vp) :
  Calls Try.prog 31 #[vl, vt, vp] w (LsPost w (CtxOk l t N len) (ctxOf l t N len)) := by
 obtain ⟨s, rfl, hs⟩ := ht
 obtain ⟨a, c, rfl⟩ := hs.form
 obtain ⟨la, lc, lb, lo, rfl, hlm, hlp, hlc⟩ := hl.open
 unfold maxLen at hlm
 have HPI := tuck hp
 obtain ⟨pa, pc, pb, po, rfl, hp1, hp2⟩ := hp
 have HAT := tuck (fun W (h1 : SlIn W 0 t.kids (.slice a t.kids.length c)) (h2 : Ints W 0 N len (.slice pa len pc)) => termAtS_any t N len hlen W _ _ ⟨_, rfl, h1⟩ h2)
 have HFT := tuck (fun W (h : SlIn W 0 l (.slice la l.length lc)) => fitsS_any l W _ h)
 have HNO : Hid (¬ CtxOk l t N len → ∀ w' a c, Below w.heap.size w w' → LsPost w (CtxOk l t N len) (ctxOf l t N len) (.returned (.tuple #[.slice a 0 c, .bool false])) w') := tuck fun h w' a c hb => LsPost.no h hb
 have HYES : Hid (CtxOk l t N len → ∀ w' a c m, m = (ctxOf l t N len).length → Below w.heap.size w w' → SlIn w' w.heap.size (ctxOf l t N len) (.slice a m c) → LsPost w (CtxOk l t N len) (ctxOf l t N len) (.returned (.tuple #[.slice a m c, .bool true])) w') := tuck fun h w' a c m e h1 h2 => by subst e; exact LsPost.yes h h1 h2
 generalize LsPost w (CtxOk l t N len) (ctxOf l t N len) = post at *
 have HS := tuck hs
 have HL := tuck hl
 have HLC := tuck hlc
 have HLP := tuck hlp
 have HP1 := tuck hp1
 have HP2 := tuck hp2
 have HBT := tuck (VarAt.new w t.kind t.num (.slice a t.kids.length c))
 have HB0 := tuck (below1 w (.cells #[.int .i64 t.kind, .int .i64 t.num, .slice a t.kids.length c] 29))
 clear hs hl hlc hlp hp1 hp2
 obtain ⟨z, d0, d1, d2, df⟩ := HBT.out.facts
 go_enter Try.func31, Try.ntmps31
 go_wp2_with fail
 generalize w.alloc (.cells #[.int .i64 t.kind, .int .i64 t.num, .slice a t.kids.length c] 29) = W0 at *
 refine (HAT.out W0 (HS.out.below HB0.out) (HPI.out.below HB0.out)).mono ?_
 rintro e w1 ⟨hb1, ya, yc, rfl, -⟩
 have HB1 := tuck (bAfter HB0.out hb1)
 have HT1 := tuck (HBT.out.below hb1)
 clear z d0 d1 d2 df hb1 HAT HPI HB0 HBT
 by_cases hpl : IsPlace t N len
 rotate_left
 ·rw [tr_not hpl]
  generalize orZero (IsPlace t N len) (wayT t N len) = R at *
  have HB2 := tuck ((HB1.out.alloc HB1.out.size (.cells #[.int .i64 R.kind, .int .i64 R.num, .slice ya R.kids.length yc] 29)).alloc (Nat.le_trans HB1.out.size (by simp)) (.cells #[] 29))
  go_wp2_with fail
  exact HNO.out (fun h => hpl h.2.1) _ _ _ HB2.out
 rw [tr_of hpl]
 generalize orZero (IsPlace t N len) (wayT t N len) = R at *
 have hbx := below1 w1 (.cells #[.int .i64 R.kind, .int .i64 R.num, .slice ya R.kids.length yc] 29)
 have HB2 := tuck (bAfter HB1.out hbx)
 have HT2 := tuck (HT1.out.below hbx)
 clear hbx HB1 HT1
 go_wp2_with fail
 generalize w1.alloc (.cells #[.int .i64 R.kind, .int .i64 R.num, .slice ya R.kids.length yc] 29) = W2 at *
 refine (HFT.out W2 (HL.out.below HB2.out)).mono ?_
 rintro e w3 ⟨rfl, hb3⟩
 have HB3 := tuck (bAfter HB2.out hb3)
 have HT3 := tuck (HT2.out.below hb3)
 clear hb3 HB2 HT2 HFT
 by_cases hfit : Fits l
 rotate_left
 ·rw [tr_not hfit]
  have HB4 := tuck (HB3.out.alloc HB3.out.size (.cells #[] 29))
  go_wp2_with fail
  exact HNO.out (fun h => hfit h.1) _ _ _ HB4.out
 rw [tr_of hfit]
 have hbx := below1 w3 (.cells #[] 29)
 have HB4 := tuck (bAfter HB3.out hbx)
 have HT4 := tuck (HT3.out.below hbx)
 have HR4 := tuck (rowT_made w3 w3.heap.size (Nat.le_refl _))
 have HZ4 : Hid (w3.heap.size ≤ (w3.alloc (.cells #[] 29)).heap.size) := tuck hbx.size
 have HBG : Hid (w.heap.size < w3.heap.size) := tuck HT3.out.facts.1
 have HBW : Hid (w.heap.size ≤ w3.heap.size) := tuck HB3.out.size
 have hl8 := hfit.2
 have HVL := tuck hfit.1
 clear hbx
 go_wp2_with fail
 generalize w3.alloc (.cells #[] 29) = W4 at *
 generalize w3.heap.size = B at *
 go_loopw [10, 11] (fun ov iv wr => ∃ (q : Nat) (v : Value), q ≤ l.length ∧ ov = v ∧ iv = .int .i64 q ∧ Below w.heap.size w wr ∧ VarAt w.heap.size t.kind t.num (.slice a t.kids.length c) wr ∧ RowT 0 B (l.take q) v wr ∧ B ≤ wr.heap.size) (fun _ iv _ => l.length - (intOf iv).toNat)
 case atStart => exact ⟨0, _, Nat.zero_le _, rfl, rfl, HB4.out, HT4.out, HR4.out, HZ4.out⟩
 case round =>
  obtain ⟨q, v, hq, rfl, rfl, hb, hv, hrow, hbz⟩ := hrel
  have hln : (l.take q).length = q := by rw [List.length_take]; omega
  obtain ⟨va, vc, rfl⟩ := hrow.form' hln
  have HB := tuck hb
  have HV := tuck hv
  have HROW := tuck hrow
  have HBZ := tuck hbz
  have HLN := tuck hln
  clear hb hv hrow hbz hln HB4 HT4 HR4 HZ4
  by_cases hlt : q < l.length
  ·have hlti : ((q : Int) < (l.length : Int)) := by omega
   have hqi : (0 : Int) ≤ (q : Int) := by omega
   obtain ⟨rfl, -, hbw⟩ := HLP.out (by intro e; rw [e] at hlt; simp at hlt)
   obtain ⟨s0, c0, c1, c2, hs0⟩ := HLC.out q hlt
   obtain ⟨sa, sc, rfl⟩ := hs0.form
   replace c0 := (HB.out.cell (p := ⟨lb, lo + q * 3, none⟩) hbw).trans c0
   replace c1 := (HB.out.cell (p := ⟨lb, lo + q * 3 + 1, none⟩) hbw).trans c1
   replace c2 := (HB.out.cell (p := ⟨lb, lo + q * 3 + 2, none⟩) hbw).trans c2
   have hbr := World.block_lt_of_cell? wr _ c0
   have HTK : Hid (l.take (q + 1) = l.take q ++ [l[q]]) := tuck (List.take_succ_eq_append_getElem hlt)
   have HCP := tuck (tl_copyS l[q] (by have := (valid_bounds (HVL.out _ (List.getElem_mem hlt))).1; omega) wr _ (hs0.below HB.out))
   clear hs0
   generalize l[q] = y at *
   go_wp2_with fail
   refine HCP.out.mono ?_
   rintro e w3 ⟨hb3, ua, uc, rfl, hs3⟩
   have hbk := below1 w3 (.cells #[.int .i64 y.kind, .int .i64 y.num, .slice ua y.kids.length uc] 29)
   have HBK := tuck (bAfter hb3 hbk)
   have HRK := tuck (HROW.out.below HBK.out)
   obtain ⟨xs, hox, hpush⟩ := HRK.out.grow HLN.out
   have HOX := tuck hox
   have HPUSH := tuck hpush
   have HLT := tuck HROW.out.lt
   have HSXK : Hid (SlX _ (OffT 0 B (.slice va q vc)) y.kids (.slice ua y.kids.length uc)) := tuck ((SlX.of_sl (B := wr.heap.size) hs3 (fun i hi => by
    rcases hi with hi | hi
    ·have := HBZ.out; omega
    ·exact (HLT.out i hi).2)).below hbk)
   obtain ⟨i0, hi0, hz0, hz1, hz2'⟩ := info_parts info_termG
   have HI0 := tuck hi0
   have HI1 := tuck hz0
   have HI2 := tuck hz1
   have HI3 := tuck hz2'
   have hq4 : q + 1 ≤ maxLen := by unfold maxLen; omega
   have hqb : (q + 1) * 40 ≤ 140737488355328 := by omega
   have HWB : Hid (B ≤ w3.heap.size) := tuck (Nat.le_trans HBZ.out hb3.size)
   clear hi0 hz0 hz1 hz2' hox hpush hbk hs3 hb3
   go_wp2_with (at_builtin; refine wpList_append_lies _ rfl _ _ _ rfl B 29 i0 _ 3 40 Try.underlying27 HI0.out HI1.out HI2.out HI3.out rfl (by omega) _ _ _ rfl HOX.out ⟨w3.heap.size, 0, none⟩ 1 1 [.int .i64 y.kind, .int .i64 y.num, .slice ua y.kids.length uc] rfl rfl ?news ?one (by omega) hq4 hqb ?base (w3.heap.size + 1) ?size ?next)
   case news => exact World.news_of_block (cs := #[.int .i64 y.kind, .int .i64 y.num, .slice ua y.kids.length uc]) (t := 29) (fr := (0, 0)) (heap_new w3 _)
   case one => simp [Value.oneCell']
   case base => have := HWB.out; simp; omega
   case size => simp
   case next =>
    intro gg gcap w4 hown4 hgrow hat hlt4
    have HGR := tuck hgrow
    have HOWN := tuck hown4
    have HAT := tuck hat
    have HB4 := tuck ((bAfter HB.out HBK.out).grown hgrow (bAfter HB.out HBK.out).size (fun g hg => by have := (HLT.out g hg).1; have := HBW.out; omega))
    have HR4 : Hid (RowT 0 B ((l.take q) ++ [y]) (.slice (some ⟨gg, 0, none⟩) (q + 1) gcap) w4) := tuck (HPUSH.out _ _ w4 y HSXK.out HOWN.out HGR.out (HAT.out.imp (fun h => h.symm) (fun h => by rw [h]; simp [Value.ownBlock])))
    have HBZ4 : Hid (B ≤ w4.heap.size) := tuck (Nat.le_trans (Nat.le_trans HBZ.out HBK.out.size) hgrow.size)
    have HV4 := tuck ((HV.out.below HBK.out).grown hgrow (fun e => by have := (HLT.out w.heap.size e.symm).1; have := HBG.out; omega))
    clear hgrow hown4 hat
    go_wp2_with fail
    go_roundw
    case rel => exact ⟨q + 1, .slice (some ⟨gg, 0, none⟩) (q + 1) gcap, by omega, rfl, by go_num, HB4.out, HV4.out, by rw [HTK.out]; exact HR4.out, HBZ4.out⟩
    case measure => simp [intOf]; omega
  obtain rfl : q = l.length := by omega
  have hlti : ¬ ((l.length : Int) < (l.length : Int)) := by omega
  have HR5 : Hid (RowT 0 B (l ++ scopeOf []) (.slice va l.length vc) wr) := tuck (by rw [show l ++ scopeOf [] = l.take l.length by simp [scopeOf]]; exact HROW.out)
  clear hlt HROW HLN
  obtain ⟨w5, hw5⟩ : ∃ w5, w5 = wr := ⟨_, rfl⟩
  subst hw5
  have HB5 := tuck HB.out
  have HV5 := tuck HV.out
  have HZ5 := tuck HBZ.out
  clear HB HV HBZ
  go_wp2_with fail
  go_loopw [10, 12] (fun ov iv wr => ∃ (q n : Nat) (p : List (Tm × Nat)) (x : Tm) (sx v : Value), q ≤ len ∧ (l ++ scopeOf p).length = n ∧ ov = v ∧ iv = .int .i64 q ∧ Below w.heap.size w wr ∧ way t N q = some (p, x) ∧ VarAt w.heap.size x.kind x.num sx wr ∧ SlIn w 0 x.kids sx ∧ RowT 0 B (l ++ scopeOf p) v wr ∧ B ≤ wr.heap.size) (fun _ iv _ => len - (intOf iv).toNat)
  case atStart => exact ⟨0, l.length, [], t, _, _, Nat.zero_le _, by simp [scopeOf], rfl, rfl, HB5.out, rfl, HV5.out, HS.out, HR5.out, HZ5.out⟩
  case round =>
   obtain ⟨q, n, p, x, sx, v, hq, hln, rfl, rfl, hb, hw, hv, hsx, hrow, hbz⟩ := hrel
   obtain ⟨va, vc, rfl⟩ := hrow.form' hln
   obtain ⟨xa, xc, xb, xo, rfl, hxl, hxp, hxc⟩ := hsx.open
   unfold maxLen at hxl
   have hkn := way_ok hpl.1 _ _ _ hw
   have hsh := (hkn.short hpl.1).2
   have hble := bindersIn_le p
   have hnb : n ≤ 40 := by rw [← hln, List.length_append, scopeOf_length]; omega
   have HXV := tuck hkn.valid
   have HB := tuck hb
   have HW := tuck hw
   have HV := tuck hv
   have HSX := tuck hsx
   have HXC := tuck hxc
   have HXP := tuck hxp
   have HROW := tuck hrow
   have HBZ := tuck hbz
   have HLN' := hln
   obtain ⟨z0, a0, a1, a2, af⟩ := HV.out.facts
   clear hb hw hv hsx hxc hxp hkn hrow hbz HB5 HV5 HZ5 HR5
   by_cases hlt : q < len
   rotate_left
   ·obtain rfl : q = len := by omega
    have hlti : ¬ ((q : Int) < (q : Int)) := by omega
    have hip := (is_place hpl.1 HW.out).2.1
    have hL : l ++ scopeOf p = ctxOf l t N q := by unfold ctxOf; rw [hip]
    have hok : CtxOk l t N q ↔ n ≤ 8 := by
     rw [← hln, hL, ctxOf_length]
     exact ⟨fun h => h.2.2, fun h => ⟨hfit, hpl, h⟩⟩
    have HSL := tuck (SlIn.mono (tl_from (B := B) ((HROW.out.done' HLN' (by unfold maxLen; omega)).less (fun i hi => ⟨Nat.zero_le _, hi⟩))) HBW.out)
    rw [hL] at HSL HLN'
    clear hlt hL hln hip hpl
    by_cases h8 : n ≤ 8
    ·have hgt : ¬ ((8 : Int) < (n : Int)) := by omega
     have hgt2 : ¬ ((n : Int) > 8) := by omega
     go_wp2_with fail
     exact HYES.out (hok.2 h8) _ va vc n HLN'.symm HB.out HSL.out
    ·have hgt : (8 : Int) < (n : Int) := by omega
     have hgt2 : (n : Int) > 8 := by omega
     have HB6 := tuck (HB.out.alloc HB.out.size (.cells #[] 29))
     go_wp2_with fail
     exact HNO.out (fun h => h8 (hok.1 h)) _ _ _ HB6.out
   have hlti : ((q : Int) < (len : Int)) := by omega
   obtain ⟨rfl, -, hbl⟩ := HP1.out (by omega)
   have c0 := (HB.out.cell (p := ⟨pb, po + q, none⟩) hbl).trans (HP2.out q hlt)
   have hpb := World.block_lt_of_cell? wr _ c0
   have hqi : (0 : Int) ≤ (q : Int) := by omega
   have hi : 0 ≤ N q ∧ N q < (x.kids.length : Int) := Classical.byContradiction fun h => no_place HW.out h hlt hpl
   obtain ⟨i, hNi⟩ : ∃ i : Nat, N q = (i : Int) := ⟨(N q).toNat, by omega⟩
   have HNI := tuck hNi
   have hwy := way_yes HW.out hi
   rw [hNi] at c0 hi hwy
   rw [show ((i : Int)).toNat = i by omega] at hwy
   have hix : i < x.kids.length := by omega
   rw [kidT_eq hix] at hwy
   obtain ⟨rfl, -, hxb⟩ := HXP.out (by intro e; rw [e] at hix; simp at hix)
   obtain ⟨sv, k0, k1, k2, hsv⟩ := HXC.out i hix
   obtain ⟨sa, sc, rfl⟩ := hsv.form
   have hx0 : 0 < x.kids.length := by omega
   obtain ⟨s0, j0, j1, j2, hs0⟩ := HXC.out 0 hx0
   obtain ⟨sa0, sc0, rfl⟩ := hs0.form
   simp only [Nat.zero_mul, Nat.add_zero] at j0 j1 j2
   have HK0 := tuck k0
   have HK1 := tuck k1
   have HK2 := tuck k2
   replace k0 := (HB.out.cell (p := ⟨xb, xo + i * 3, none⟩) hxb).trans k0
   replace k1 := (HB.out.cell (p := ⟨xb, xo + i * 3 + 1, none⟩) hxb).trans k1
   replace k2 := (HB.out.cell (p := ⟨xb, xo + i * 3 + 2, none⟩) hxb).trans k2
   replace j0 := (HB.out.cell (p := ⟨xb, xo, none⟩) hxb).trans j0
   replace j1 := (HB.out.cell (p := ⟨xb, xo + 1, none⟩) hxb).trans j1
   replace j2 := (HB.out.cell (p := ⟨xb, xo + 2, none⟩) hxb).trans j2
   have hxr := World.block_lt_of_cell? wr _ k0
   obtain ⟨hi1, hi2⟩ := hi
   have hi00 : (0 : Int) < (x.kids.length : Int) := by omega
   have HWY := tuck hwy
   have HSV := tuck hsv
   have HBI : Hid (∀ W, Calls Try.prog 55 #[.int .i64 x.kind, .int .i64 i] W fun e w' => e = .returned (.bool (decide (under x.kind i = 1))) ∧ w' = W) := tuck fun W => (binds_any x.kind i W).mono fun e w' h => ⟨h.1, h.2.symm⟩
   have hsn := scopeOf_snoc p x i
   rw [show kidT x 0 = x.kids[0]'hx0 from kidT_eq hx0] at hsn
   have HSN0 := tuck hsn
   have HCPY : Hid (∀ W, Below wr.heap.size wr W → Calls Try.prog 39 #[.agg #[.int .i64 (x.kids[0]'hx0).kind, .int .i64 (x.kids[0]'hx0).num, .slice sa0 (x.kids[0]'hx0).kids.length sc0]] W (TlPost W (x.kids[0]'hx0))) := tuck fun W hW => tl_copyS _ (by have := (valid_bounds (HXV.out.get (i := 0) hx0)).1; omega) W _ (hs0.below (bAfter HB.out hW))
   clear hwy hNi hsv hs0 HXC HXP hsn HXV
   generalize x.kids[i] = y at *
   generalize x.kids[0]'hx0 = y0 at *
   by_cases hun : under x.kind i = 1
   rotate_left
   ·have HSN : Hid (l ++ scopeOf (p ++ [(x, i)]) = l ++ scopeOf p) := tuck (by rw [HSN0.out, if_neg hun, List.append_nil])
    rw [decide_eq_false hun] at HBI
    clear hun HSN0 HCPY
    go_wp2_with fail
    go_quiet ((go_at_call 55; exact Calls.quiet_of_same (HBI.out _)))
    go_wp2_with fail
    go_region
    go_wp2_with fail
    go_roundw
    case rel =>
     refine ⟨q + 1, n, _, y, .slice sa y.kids.length sc, .slice va n vc, by omega, by rw [HSN.out]; exact HLN', rfl, by go_num, bSet3 (bDrewN HB.out (nq + 1)) (Nat.le_refl _) _ _ _ _ _ _, HWY.out, VarAt.set3 (w := wr.drewN (nq + 1)) HV.out, HSV.out, ?_, ?_⟩
     ·rw [HSN.out]
      exact RowT.put (w := wr.drewN (nq + 1)) (HROW.out.drew _) ⟨Nat.zero_le _, HBG.out⟩ _ _ _ _ _ _
     ·rw [size_set3]; exact HBZ.out
    case measure => simp [intOf]; omega
   have HSN : Hid (l ++ scopeOf (p ++ [(x, i)]) = (l ++ scopeOf p) ++ [y0]) := tuck (by rw [HSN0.out, if_pos hun, List.append_assoc])
   rw [decide_eq_true hun] at HBI
   clear hun HSN0
   go_wp2_with fail
   go_quiet ((go_at_call 55; exact Calls.quiet_of_same (HBI.out _)))
   have HCP := tuck (HCPY.out (wr.drewN nq) (bDrewN (Below.refl _ _) nq))
   replace HB := tuck (bDrewN HB.out nq)
   replace HV := tuck (show VarAt w.heap.size x.kind x.num (.slice (some ⟨xb, xo, none⟩) x.kids.length xc) (wr.drewN nq) from HV.out)
   replace HROW := tuck (HROW.out.drew nq)
   replace HBZ := tuck (show B ≤ (wr.drewN nq).heap.size from HBZ.out)
   clear HCPY
   go_wp2_with fail
   refine HCP.out.mono ?_
   rintro e w3 ⟨hb3, ua, uc, rfl, hs3⟩
   have hbk := below1 w3 (.cells #[.int .i64 y0.kind, .int .i64 y0.num, .slice ua y0.kids.length uc] 29)
   have HBK := tuck (bAfter hb3 hbk)
   have HRK := tuck (HROW.out.below HBK.out)
   obtain ⟨xs, hox, hpush⟩ := HRK.out.grow HLN'
   have HOX := tuck hox
   have HPUSH := tuck hpush
   have HLT := tuck HROW.out.lt
   have HSXK : Hid (SlX _ (OffT 0 B (.slice va n vc)) y0.kids (.slice ua y0.kids.length uc)) := tuck ((SlX.of_sl (B := (wr.drewN nq).heap.size) hs3 (fun i hi => by
    rcases hi with hi | hi
    ·have := HBZ.out; omega
    ·exact (HLT.out i hi).2)).below hbk)
   obtain ⟨i0, hi0, hz0, hz1, hz2'⟩ := info_parts info_termG
   have HI0 := tuck hi0
   have HI1 := tuck hz0
   have HI2 := tuck hz1
   have HI3 := tuck hz2'
   have hq4 : n + 1 ≤ maxLen := by unfold maxLen; omega
   have hqb : (n + 1) * 40 ≤ 140737488355328 := by omega
   have HWB : Hid (B ≤ w3.heap.size) := tuck (Nat.le_trans HBZ.out hb3.size)
   clear hi0 hz0 hz1 hz2' hox hpush hbk hs3 hb3
   go_wp2_with (at_builtin; refine wpList_append_lies _ rfl _ _ _ rfl B 29 i0 _ 3 40 Try.underlying27 HI0.out HI1.out HI2.out HI3.out rfl (by omega) _ _ _ rfl HOX.out ⟨w3.heap.size, 0, none⟩ 1 1 [.int .i64 y0.kind, .int .i64 y0.num, .slice ua y0.kids.length uc] rfl rfl ?news ?one (by omega) hq4 hqb ?base (w3.heap.size + 1) ?size ?next)
   case news => exact World.news_of_block (cs := #[.int .i64 y0.kind, .int .i64 y0.num, .slice ua y0.kids.length uc]) (t := 29) (fr := (0, 0)) (heap_new w3 _)
   case one => simp [Value.oneCell']
   case base => have := HWB.out; simp; omega
   case size => simp
   case next =>
    intro gg gcap w4 hown4 hgrow hat hlt4
    have HGR := tuck hgrow
    have HOWN := tuck hown4
    have HAT := tuck hat
    have HB4 := tuck ((bAfter HB.out HBK.out).grown hgrow (bAfter HB.out HBK.out).size (fun g hg => by have := (HLT.out g hg).1; have := HBW.out; omega))
    have HR4 : Hid (RowT 0 B ((l ++ scopeOf p) ++ [y0]) (.slice (some ⟨gg, 0, none⟩) (n + 1) gcap) w4) := tuck (HPUSH.out _ _ w4 y0 HSXK.out HOWN.out HGR.out (HAT.out.imp (fun h => h.symm) (fun h => by rw [h]; simp [Value.ownBlock])))
    have HBZ4 : Hid (B ≤ w4.heap.size) := tuck (Nat.le_trans (Nat.le_trans HBZ.out HBK.out.size) hgrow.size)
    have HV4 := tuck ((HV.out.below HBK.out).grown hgrow (fun e => by have := (HLT.out w.heap.size e.symm).1; have := HBG.out; omega))
    clear hgrow hown4 hat
    obtain ⟨z4, g0, g1, g2, gf⟩ := HV4.out.facts
    have q0' := (HB4.out.cell (p := ⟨pb, po + q, none⟩) hbl).trans (HP2.out q hlt)
    rw [HNI.out] at q0'
    have m0 := (HB4.out.cell (p := ⟨xb, xo + i * 3, none⟩) hxb).trans HK0.out
    have m1 := (HB4.out.cell (p := ⟨xb, xo + i * 3 + 1, none⟩) hxb).trans HK1.out
    have m2 := (HB4.out.cell (p := ⟨xb, xo + i * 3 + 2, none⟩) hxb).trans HK2.out
    have hz4 := World.block_lt_of_cell? w4 _ m0
    have hp4 := World.block_lt_of_cell? w4 _ q0'
    go_wp2_with fail
    go_region
    go_wp2_with fail
    go_roundw
    case rel =>
     refine ⟨q + 1, n + 1, _, y, .slice sa y.kids.length sc, .slice (some ⟨gg, 0, none⟩) (n + 1) gcap, by omega, by rw [HSN.out, List.length_append, HLN']; rfl, rfl, by go_num, bSet3 HB4.out.drew (Nat.le_refl _) _ _ _ _ _ _, HWY.out, VarAt.set3 (w := w4.drew) HV4.out, HSV.out, ?_, ?_⟩
     ·rw [HSN.out]
      exact RowT.put (w := w4.drew) (HR4.out.below (Below.refl _ _).drew) ⟨Nat.zero_le _, HBG.out⟩ _ _ _ _ _ _
     ·simpa [World.setCell] using HBZ4.out
    case measure => simp [intOf]; omega
end Go.Proofs.Ytleijaegpfjnpaa
