/-
  PlF.
-/
import Derived.Test.YtleijaegpfjnpaaB19
import Derived.Test.YtleijaegpfjnpaaB41
import Derived.Test.YtleijaegpfjnpaaB48
namespace Go.Proofs.Ytleijaegpfjnpaa
open Go.RowKit
noncomputable def orNone (P : Prop) (n : Int) : Int := @ite _ P (Classical.propDecidable _) n 0
def NumRes (w : World) (P : Prop) (n : Int) (e : Ending) (w' : World) : Prop := Below w.heap.size w w' ∧ e = .returned (.tuple #[.int .i64 (orNone P n), .bool (tr P)])
theorem NumRes.no {w w' : World} {P : Prop} {n : Int} (hP : ¬ P) (hb : Below w.heap.size w w') : NumRes w P n (.returned (.tuple #[.int .i64 0, .bool false])) w' := by
 refine ⟨hb, ?_⟩
 unfold orNone
 rw [if_neg hP, tr_not hP]
theorem NumRes.yes {w w' : World} {P : Prop} {n m : Int} (hP : P) (hm : m = n) (hb : Below w.heap.size w w') : NumRes w P n (.returned (.tuple #[.int .i64 m, .bool true])) w' := by
 refine ⟨hb, ?_⟩
 unfold orNone
 rw [if_pos hP, tr_of hP, hm]
theorem under_cases (k : Int) (i : Nat) : under k i = 0 ∨ under k i = 1 := by
 unfold under
 split
 ·exact Or.inr rfl
 ·exact Or.inl rfl
set_option maxRecDepth 100000 in
set_option maxHeartbeats 1600000 in
theorem bindersS_any (t : Tm) (N : Int → Int) (len : Nat) (hlen : len ≤ 1048576) (w : World) (vt vp : Value) (ht : TmIn w 0 t vt) (hp : Ints w 0 N len vp) :
  Calls Try.prog 21 #[vt, vp] w (NumRes w (IsPlace t N len) (bindersIn (wayP t N len))) := by
 obtain ⟨s, rfl, hs⟩ := ht
 obtain ⟨a, c, rfl⟩ := hs.form
 have HAT := tuck (fun W (h1 : SlIn W 0 t.kids (.slice a t.kids.length c)) (h2 : Ints W 0 N len vp) => termAtS_any t N len hlen W _ vp ⟨_, rfl, h1⟩ h2)
 have HPI := tuck hp
 obtain ⟨pa, pc, pb, po, rfl, hp1, hp2⟩ := hp
 have HNO : Hid (¬ IsPlace t N len → ∀ w', Below w.heap.size w w' → NumRes w (IsPlace t N len) (bindersIn (wayP t N len)) (.returned (.tuple #[.int .i64 0, .bool false])) w') := tuck fun h w' hb => NumRes.no h hb
 have HYES : Hid (IsPlace t N len → ∀ w' m, m = (bindersIn (wayP t N len) : Int) → Below w.heap.size w w' → NumRes w (IsPlace t N len) (bindersIn (wayP t N len)) (.returned (.tuple #[.int .i64 m, .bool true])) w') := tuck fun h w' m hm hb => NumRes.yes h hm hb
 generalize NumRes w (IsPlace t N len) (bindersIn (wayP t N len)) = post at *
 have HS := tuck hs
 have HP1 := tuck hp1
 have HP2 := tuck hp2
 have HBX := tuck (VarAt.new w t.kind t.num (.slice a t.kids.length c))
 have HB0 := tuck (below1 w (.cells #[.int .i64 t.kind, .int .i64 t.num, .slice a t.kids.length c] 29))
 clear hs hp1 hp2
 obtain ⟨z, d0, d1, d2, df⟩ := HBX.out.facts
 go_enter Try.func21, Try.ntmps21
 go_wp2_with fail
 generalize w.alloc (.cells #[.int .i64 t.kind, .int .i64 t.num, .slice a t.kids.length c] 29) = W0 at *
 refine (HAT.out W0 (HS.out.below HB0.out) (HPI.out.below HB0.out)).mono ?_
 rintro e w1 ⟨hb1, ya, yc, rfl, -⟩
 have HB1 := tuck (bAfter HB0.out hb1)
 have HX1 := tuck (HBX.out.below hb1)
 clear z d0 d1 d2 df hb1 HAT HPI HB0 HBX
 by_cases hpl : IsPlace t N len
 rotate_left
 ·rw [tr_not hpl]
  generalize orZero (IsPlace t N len) (wayT t N len) = R at *
  have HB2 := tuck (bAfter HB1.out (below1 w1 (.cells #[.int .i64 R.kind, .int .i64 R.num, .slice ya R.kids.length yc] 29)))
  go_wp2_with fail
  exact HNO.out hpl _ HB2.out
 rw [tr_of hpl]
 have HY := tuck (HYES.out hpl)
 generalize orZero (IsPlace t N len) (wayT t N len) = R at *
 have hbx := below1 w1 (.cells #[.int .i64 R.kind, .int .i64 R.num, .slice ya R.kids.length yc] 29)
 have HB2 := tuck (bAfter HB1.out hbx)
 have HX2 := tuck (HX1.out.below hbx)
 clear hbx HYES HNO HB1 HX1
 go_wp2_with fail
 generalize w1.alloc (.cells #[.int .i64 R.kind, .int .i64 R.num, .slice ya R.kids.length yc] 29) = W2 at *
 go_loopw [8, 9] (fun nv iv wr => ∃ (q n : Nat) (p : List (Tm × Nat)) (x : Tm) (sx : Value), q ≤ len ∧ nv = .int .i64 n ∧ iv = .int .i64 q ∧ bindersIn p = n ∧ Below w.heap.size w wr ∧ way t N q = some (p, x) ∧ VarAt w.heap.size x.kind x.num sx wr ∧ SlIn w 0 x.kids sx) (fun _ iv _ => len - (intOf iv).toNat)
 case atStart => exact ⟨0, 0, [], t, _, Nat.zero_le _, rfl, rfl, rfl, HB2.out, rfl, HX2.out, HS.out⟩
 case round =>
  obtain ⟨q, n, p, x, sx, hq, rfl, rfl, hn, hb, hw, hv, hsx⟩ := hrel
  obtain ⟨xa, xc, xb, xo, rfl, hxl, hxp, hxc⟩ := hsx.open
  unfold maxLen at hxl
  have hkn := way_ok hpl.1 _ _ _ hw
  have hsh := (hkn.short hpl.1).2
  have hble := bindersIn_le p
  have HB := tuck hb
  have HW := tuck hw
  have HV := tuck hv
  have HSX := tuck hsx
  have HXC := tuck hxc
  have HXP := tuck hxp
  have HBN := tuck hn
  obtain ⟨z0, a0, a1, a2, af⟩ := HV.out.facts
  clear hb hw hv hsx hxc hxp hkn
  by_cases hlt : q < len
  rotate_left
  ·obtain rfl : q = len := by omega
   have hlti : ¬ ((q : Int) < (q : Int)) := by omega
   have hi2 := (is_place hpl.1 HW.out).2.1
   clear hlt
   go_wp2_with fail
   exact HY.out _ (n : Int) (by rw [hi2, HBN.out]) HB.out
  have hlti : ((q : Int) < (len : Int)) := by omega
  obtain ⟨rfl, -, hbl⟩ := HP1.out (by omega)
  have c0 := (HB.out.cell (p := ⟨pb, po + q, none⟩) hbl).trans (HP2.out q hlt)
  have hpb := World.block_lt_of_cell? wr _ c0
  have hqi : (0 : Int) ≤ (q : Int) := by omega
  have hi : 0 ≤ N q ∧ N q < (x.kids.length : Int) := Classical.byContradiction fun h => no_place HW.out h hlt hpl
  obtain ⟨i, hNi⟩ : ∃ i : Nat, N q = (i : Int) := ⟨(N q).toNat, by omega⟩
  have hwy := way_yes HW.out hi
  rw [hNi] at c0 hi hwy
  rw [show ((i : Int)).toNat = i by omega] at hwy
  have hix : i < x.kids.length := by omega
  rw [kidT_eq hix] at hwy
  obtain ⟨rfl, -, hxb⟩ := HXP.out (by intro e; rw [e] at hix; simp at hix)
  obtain ⟨sv, k0, k1, k2, hsv⟩ := HXC.out i hix
  obtain ⟨sa, sc, rfl⟩ := hsv.form
  replace k0 := (HB.out.cell (p := ⟨xb, xo + i * 3, none⟩) hxb).trans k0
  replace k1 := (HB.out.cell (p := ⟨xb, xo + i * 3 + 1, none⟩) hxb).trans k1
  replace k2 := (HB.out.cell (p := ⟨xb, xo + i * 3 + 2, none⟩) hxb).trans k2
  have hxr := World.block_lt_of_cell? wr _ k0
  obtain ⟨hi1, hi2⟩ := hi
  have HWY := tuck hwy
  have HSV := tuck hsv
  have hbn := bindersIn_snoc p x i
  obtain ⟨d, hd, hdb, hdn⟩ : ∃ d : Nat, under x.kind i = (d : Int) ∧ d ≤ 1 ∧ bindersIn (p ++ [(x, i)]) = n + d := by
   rcases under_cases x.kind i with h | h
   ·exact ⟨0, h, by omega, by rw [hbn, HBN.out, h]; rfl⟩
   ·exact ⟨1, h, by omega, by rw [hbn, HBN.out, h]; rfl⟩
  have HU : Hid (∀ W, Calls Try.prog 46 #[.int .i64 x.kind, .int .i64 i] W fun e w' => e = .returned (.int .i64 (d : Int)) ∧ w' = W) := tuck fun W => (under_any x.kind i W).mono fun e w' h => ⟨by rw [h.1, hd], h.2.symm⟩
  have HDN := tuck hdn
  have hwr : IntKind.i64.wrap ((n : Int) + (d : Int)) = ((n : Int) + (d : Int)) := IntWalk.i64_in _ (by omega)
  clear hwy hNi hsv HXC HXP hbn hd hdn
  generalize x.kids[i] = y at *
  go_wp2_with fail
  go_quiet ((go_at_call 46; exact Calls.quiet_of_same (HU.out _)))
  go_wp2_with fail
  go_region
  go_wp2_with fail
  go_roundw
  case rel => exact ⟨q + 1, n + d, _, y, .slice sa y.kids.length sc, by omega, by go_num, by go_num, HDN.out, bSet3 (bDrewN HB.out (nq + 1)) (Nat.le_refl _) _ _ _ _ _ _, HWY.out, VarAt.set3 (w := wr.drewN (nq + 1)) HV.out, HSV.out⟩
  case measure => simp [intOf]; omega
set_option maxRecDepth 100000 in
set_option maxHeartbeats 1600000 in
theorem bindersI_any (t : Tm) (N : Int → Int) (len : Nat) (hlen : len ≤ 1048576) (w : World) (vt vp : Value) (ht : TmIn w 0 t vt) (hp : Ints w 0 N len vp) :
  Calls Try.prog 22 #[vt, vp] w (NumRes w (IsPlace t N len) (bindersIn (wayP t N len))) := by
 obtain ⟨s, rfl, hs⟩ := ht
 obtain ⟨a, c, rfl⟩ := hs.form
 obtain ⟨pa, pc, rfl⟩ := hp.form
 have HNO : Hid (¬ IsPlace t N len → ∀ w', Below w.heap.size w w' → NumRes w (IsPlace t N len) (bindersIn (wayP t N len)) (.returned (.tuple #[.int .i64 0, .bool false])) w') := tuck fun h w' hb => NumRes.no h hb
 have HYES : Hid (IsPlace t N len → ∀ w' (m : Nat), m = bindersIn (wayP t N len) → Below w.heap.size w w' → NumRes w (IsPlace t N len) (bindersIn (wayP t N len)) (.returned (.tuple #[.int .i64 (m : Int), .bool true])) w') := tuck fun h w' m hm hb => NumRes.yes h (by rw [hm]) hb
 generalize NumRes w (IsPlace t N len) (bindersIn (wayP t N len)) = post at *
 have HS := tuck hs
 have HP := tuck hp
 have HB0 := tuck (below1 w (.cells #[.int .i64 t.kind, .int .i64 t.num, .slice a t.kids.length c] 29))
 obtain ⟨z, d0, d1, d2, df⟩ := (VarAt.new w t.kind t.num (.slice a t.kids.length c)).facts
 clear hs hp
 go_enter Try.func22, Try.ntmps22
 go_wp2_with fail
 generalize w.alloc (.cells #[.int .i64 t.kind, .int .i64 t.num, .slice a t.kids.length c] 29) = W0 at *
 refine (placeI_any t N len hlen W0 _ _ ⟨_, rfl, HS.out.below HB0.out⟩ (HP.out.below HB0.out)).mono ?_
 rintro e w1 ⟨hb1, hat⟩
 have HB1 := tuck (bAfter HB0.out hb1)
 clear z d0 d1 d2 df HP HS hb1
 rcases hat with ⟨hpl, g, M, rfl, hcur, -⟩ | ⟨hno, rfl⟩
 ·have HY := tuck (HYES.out hpl)
  have hk := hpl.ok
  have HSC := tuck (scopeI_any hk.inn (by have := (hk.short hpl.1).2; omega) hcur)
  have hln := scopeOf_length (wayP t N len)
  clear hcur hk HYES HNO
  go_wp2_with fail
  refine HSC.out.mono ?_
  rintro e w2 ⟨hb2, ya, yc, rfl, -⟩
  have HB2 := tuck (bAfter HB1.out hb2)
  rw [hln]
  have hl100 : bindersIn (wayP t N len) ≤ 1000 := Nat.le_trans (bindersIn_le _) (by have := (hpl.ok.short hpl.1).2; omega)
  clear hb2 hln hpl HSC
  generalize bindersIn (wayP t N len) = m at *
  go_wp2_with fail
  exact HY.out _ m rfl HB2.out
 ·go_wp2_with fail
  exact HNO.out hno _ HB1.out
end Go.Proofs.Ytleijaegpfjnpaa
