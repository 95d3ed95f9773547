/-
  PlC, ParseP, Vars.
-/
import Derived.Test.YtihlbbbajaepoaaGreatR07
import Derived.Test.YtihlbbbajaepoaaGreatR09
import Derived.Test.YtihlbbbajaepoaaGreatR11
import Derived.Test.YtihlbbbajaepoaaGreatR17
import Derived.Test.YtihlbbbajaepoaaGreatR18
import Derived.Test.YtihlbbbajaepoaaGreatR19
import Derived.Test.YtihlbbbajaepoaaGreatR20
import Derived.Test.YtihlbbbajaepoaaGreatR22
import Derived.BigQuiet
import Derived.Deep.QuietTactic
namespace Go.Proofs.YtihlbbbajaepoaaGreat
open Go.RowKit
structure TV (g : Nat) (T : Tm) (a : Option Addr) (c : Nat) (w : World) : Prop where
 var : VarAt g T.kind T.num (.slice a T.kids.length c) w
 sl : SlIn w 0 T.kids (.slice a T.kids.length c)
theorem TV.below {g : Nat} {T : Tm} {a : Option Addr} {c : Nat} {w w' : World} (h : TV g T a c w) (hb : Below w.heap.size w w') : TV g T a c w' := ⟨h.var.below hb, h.sl.below hb⟩
theorem TV.new {T : Tm} {a : Option Addr} {c : Nat} {w : World} (h : SlIn w 0 T.kids (.slice a T.kids.length c)) : TV w.heap.size T a c (w.alloc (.cells #[.int .i64 T.kind, .int .i64 T.num, .slice a T.kids.length c] 34)) := ⟨VarAt.new _ _ _ _, h.below (below1 _ _)⟩
theorem TV.tm {g : Nat} {T : Tm} {a : Option Addr} {c : Nat} {w : World} (h : TV g T a c w) : TmIn w 0 T (.agg #[.int .i64 T.kind, .int .i64 T.num, .slice a T.kids.length c]) := ⟨_, rfl, h.sl⟩
theorem TV.facts {g : Nat} {T : Tm} {a : Option Addr} {c : Nat} {w : World} (h : TV g T a c w) : g < w.heap.size ∧ w.cell? ⟨g, 0, none⟩ = some (.int .i64 T.kind) ∧ w.cell? ⟨g, 1, none⟩ = some (.int .i64 T.num) ∧ w.cell? ⟨g, 2, none⟩ = some (.slice a T.kids.length c) ∧ ∀ i, w.frozen? ⟨g, i, none⟩ = false := h.var.facts
def PairPost (w : World) (T : Tm) (b : Bool) (e : Ending) (w' : World) : Prop := Below w.heap.size w w' ∧ ∃ v, e = .returned (.tuple #[v, .bool b]) ∧ TmIn w' 0 T v
theorem ReplPost.pair {w w' : World} {P : Prop} {T : Tm} {e : Ending} (h : ReplPost w P T e w') : PairPost w (orZero P T) (tr P) e w' := by
 obtain ⟨hb, v, he, s, F, hv, hs, -, -⟩ := h
 exact ⟨hb, v, he, s, hv, hs.sl fun _ _ => Nat.zero_le _⟩
theorem orZero_yes {P : Prop} {T : Tm} (h : P) : orZero P T = T := by unfold orZero; rw [if_pos h]
theorem orZero_no {P : Prop} {T : Tm} (h : ¬ P) : orZero P T = zeroT := by unfold orZero; rw [if_neg h]
theorem same_z (w : World) (v1 v2 : Value) (h1 : TmIn w 0 zeroT v1) (h2 : TmIn w 0 zeroT v2) : Calls Tryz.prog 25 #[v1, v2] w (BoolPost w true) := by
 have := termSame_any zeroT zeroT w v1 v2 (Or.inr rfl) h1 h2
 rwa [same_self] at this
theorem same_v {T : Tm} (hT : T.Valid) (w : World) (v1 v2 : Value) (h1 : TmIn w 0 T v1) (h2 : TmIn w 0 T v2) : Calls Tryz.prog 25 #[v1, v2] w (BoolPost w true) := by
 have := termSame_any T T w v1 v2 (Or.inl hT) h1 h2
 rwa [same_self] at this
end Go.Proofs.YtihlbbbajaepoaaGreat
namespace Go.Proofs.YtihlbbbajaepoaaGreat
open Go.RowKit
def AtPost (t : Tm) (N : Int → Int) (len : Nat) (w : World) (e : Ending) (w' : World) : Prop :=
 Below w.heap.size w w' ∧ ((∃ (p : List (Tm × Nat)) (x : Tm) (a : Option Addr) (c : Nat), way t N len = some (p, x) ∧ e = .returned (.tuple #[.agg #[.int .i64 x.kind, .int .i64 x.num, .slice a x.kids.length c], .bool true]) ∧ SlIn w 0 x.kids (.slice a x.kids.length c)) ∨ (way t N len = none ∧ e = .returned (.tuple #[.agg #[.int .i64 0, .int .i64 0, .slice none 0 0], .bool false])))
set_option maxRecDepth 100000 in
set_option maxHeartbeats 1600000 in
theorem l8at_any (t : Tm) (N : Int → Int) (len : Nat) (hlen : len ≤ 1048576) (w : World) (s vp : Value) (hs : SlIn w 0 t.kids s) (hp : Ints w 0 N len vp) :
  Calls Tryz.prog 62 #[.agg #[.int .i64 t.kind, .int .i64 t.num, s], vp] w (AtPost t N len w) := by
 obtain ⟨a, c, rfl⟩ := hs.form
 obtain ⟨pa, pc, pb, po, rfl, hp1, hp2⟩ := hp
 have HPY : Hid (∀ (w' : World) (p : List (Tm × Nat)) (x : Tm) (a : Option Addr) (c : Nat), Below w.heap.size w w' → way t N len = some (p, x) → SlIn w 0 x.kids (.slice a x.kids.length c) → AtPost t N len w (.returned (.tuple #[.agg #[.int .i64 x.kind, .int .i64 x.num, .slice a x.kids.length c], .bool true])) w') := tuck fun w' p x a c h1 h2 h3 => ⟨h1, Or.inl ⟨p, x, a, c, h2, rfl, h3⟩⟩
 have HPN : Hid (∀ w', Below w.heap.size w w' → way t N len = none → AtPost t N len w (.returned (.tuple #[.agg #[.int .i64 0, .int .i64 0, .slice none 0 0], .bool false])) w') := tuck fun w' h1 h2 => ⟨h1, Or.inr ⟨h2, rfl⟩⟩
 generalize AtPost t N len w = post at *
 have HS := tuck hs
 have HP1 := tuck hp1
 have HP2 := tuck hp2
 have HBX := tuck ((VarAt.new w t.kind t.num (.slice a t.kids.length c)).below (below1 _ (.cells #[.int .i64 0, .int .i64 0, .slice none 0 0] 34)))
 have HBR := tuck (var_new1 w (.cells #[.int .i64 t.kind, .int .i64 t.num, .slice a t.kids.length c] 34) 0 0 (.slice none 0 0))
 clear hs hp1 hp2
 have HB0 := tuck (below2 w (.cells #[.int .i64 t.kind, .int .i64 t.num, .slice a t.kids.length c] 34) (.cells #[.int .i64 0, .int .i64 0, .slice none 0 0] 34))
 go_enter Tryz.func62, Tryz.ntmps62
 go_wp2_with fail
 generalize (w.alloc (.cells #[.int .i64 t.kind, .int .i64 t.num, .slice a t.kids.length c] 34)).alloc (.cells #[.int .i64 0, .int .i64 0, .slice none 0 0] 34) = W0 at *
 go_loopw [6] (fun i wr => ∃ (q : Nat) (p : List (Tm × Nat)) (x : Tm) (sx : Value), q ≤ len ∧ i = .int .i64 q ∧ Below w.heap.size w wr ∧ way t N q = some (p, x) ∧ VarAt w.heap.size x.kind x.num sx wr ∧ VarAt (w.heap.size + 1) 0 0 (.slice none 0 0) wr ∧ SlIn w 0 x.kids sx) (fun i _ => len - (intOf i).toNat)
 case atStart => exact ⟨0, [], t, _, Nat.zero_le _, rfl, HB0.out, rfl, HBX.out, HBR.out, HS.out⟩
 case round =>
  obtain ⟨q, p, x, sx, hq, rfl, hb, hw, hv, hr, hsx⟩ := hrel
  obtain ⟨xa, xc, xb, xo, rfl, hxl, hxp, hxc⟩ := hsx.open
  unfold maxLen at hxl
  have HB := tuck hb
  have HW := tuck hw
  have HV := tuck hv
  have HR := tuck hr
  have HSX := tuck hsx
  have HXC := tuck hxc
  have HXP := tuck hxp
  obtain ⟨z0, a0, a1, a2, af⟩ := HV.out.facts
  obtain ⟨z1, r0, r1, r2, rf⟩ := HR.out.facts
  clear hb hw hv hr hsx hxc hxp
  by_cases hlt : q < len
  ·have hlti : ((q : Int) < (len : Int)) := by omega
   obtain ⟨rfl, -, hbl⟩ := HP1.out (by omega)
   have c0 := (HB.out.cell (p := ⟨pb, po + q, none⟩) hbl).trans (HP2.out q hlt)
   have hpb := World.block_lt_of_cell? wr _ c0
   have hqi : (0 : Int) ≤ (q : Int) := by omega
   by_cases hi : 0 ≤ N q ∧ N q < (x.kids.length : Int)
   ·obtain ⟨i, hNi⟩ : ∃ i : Nat, N q = (i : Int) := ⟨(N q).toNat, by omega⟩
    have hwy := way_yes HW.out hi
    rw [hNi] at c0 hi hwy
    rw [show ((i : Int)).toNat = i by omega] at hwy
    have hix : i < x.kids.length := by omega
    rw [kidT_eq hix] at hwy
    obtain ⟨rfl, -, hxb⟩ := HXP.out (by intro e; rw [e] at hix; simp at hix)
    obtain ⟨sv, k0, k1, k2, hsv⟩ := HXC.out i hix
    obtain ⟨sa, sc, rfl⟩ := hsv.form
    replace k0 := (HB.out.cell (p := ⟨xb, xo + i * 3, none⟩) hxb).trans k0
    replace k1 := (HB.out.cell (p := ⟨xb, xo + i * 3 + 1, none⟩) hxb).trans k1
    replace k2 := (HB.out.cell (p := ⟨xb, xo + i * 3 + 2, none⟩) hxb).trans k2
    have hxr := World.block_lt_of_cell? wr _ k0
    obtain ⟨hi1, hi2⟩ := hi
    have hi3 : decide ((x.kids.length : Int) ≤ (i : Int)) = false := by simp; omega
    have hi4 : decide ((i : Int) < 0) = false := by simp
    have HWY := tuck hwy
    have HSV := tuck hsv
    clear hwy hNi hsv HXC HXP
    generalize x.kids[i] = y at *
    go_wp2_with fail
    go_quiet (fail)
    go_wp2_with fail
    go_region
    go_wp2_with fail
    go_roundw
    case rel => exact ⟨q + 1, _, y, .slice sa y.kids.length sc, by omega, by go_num, bSet3 (bDrewN HB.out (nq + 1)) (Nat.le_refl _) _ _ _ _ _ _, HWY.out, VarAt.set3 (w := wr.drewN (nq + 1)) HV.out, VarAt.far3 (w := wr.drewN (nq + 1)) HR.out (by omega) _ _ _ _ _ _, HSV.out⟩
    case measure => simp [intOf]; omega
   ·have hno := way_stays (way_no HW.out hi) (len - (q + 1))
    rw [show q + 1 + (len - (q + 1)) = len by omega] at hno
    generalize N q = nq at *
    by_cases h0 : nq < 0
    ·have h1 : decide (nq < 0) = true := by simpa using h0
     clear hi
     go_wp2_with fail
     go_quiet (fail)
     go_wp2_with fail
     refine bodyPost_ret (v := .tuple #[.agg #[.int .i64 0, .int .i64 0, .slice none 0 0], .bool false]) (by simp [results, Tryz.results62, go_sem, *]) rfl ?_
     exact HPN.out _ (bSet3 (bDrewN HB.out _) (Nat.le_succ _) _ _ _ _ _ _) hno
    ·have hge : (x.kids.length : Int) ≤ nq := by omega
     have h1 : decide (nq < 0) = false := by simpa using h0
     have h2 : decide ((x.kids.length : Int) ≤ nq) = true := by simpa using hge
     clear hi
     go_wp2_with fail
     go_quiet (fail)
     go_wp2_with fail
     refine bodyPost_ret (v := .tuple #[.agg #[.int .i64 0, .int .i64 0, .slice none 0 0], .bool false]) (by simp [results, Tryz.results62, go_sem, *]) rfl ?_
     exact HPN.out _ (bSet3 (bDrewN HB.out _) (Nat.le_succ _) _ _ _ _ _ _) hno
  ·obtain rfl : q = len := by omega
   have hlti : ¬ ((q : Int) < (q : Int)) := by omega
   clear hlt
   go_wp2_with fail
   refine bodyPost_ret (v := .tuple #[.agg #[.int .i64 x.kind, .int .i64 x.num, .slice xa x.kids.length xc], .bool true]) (by simp [results, Tryz.results62, go_sem, *]) rfl ?_
   exact HPY.out _ p x xa xc (bSet3 HB.out (Nat.le_succ _) _ _ _ _ _ _) HW.out HSX.out
end Go.Proofs.YtihlbbbajaepoaaGreat
namespace Go.Proofs.YtihlbbbajaepoaaGreat
def preKind (b : Nat) : Int := if b = 33 then 11 else if b = 94 then 15 else if b = 95 then 16 else 8
def roundKind (b : Nat) : Int := if b = 62 then 3 else if b = 42 then 13 else if b = 32 then 5 else 0
def blockKind (b : Nat) : Int := if b = 60 then 9 else if b = 123 then 10 else if b = 124 then 14 else if b = 64 then 12 else 0
def blockLast (b : Nat) : Nat := if b = 123 then 125 else if b = 124 then 124 else 62
def byteAt (s : ByteArray) (a : Nat) : Nat := if h : a < s.size then s[a].toNat else 0
theorem byteAt_eq {s : ByteArray} {a : Nat} (h : a < s.size) : byteAt s a = s[a].toNat := dif_pos h
def ptSer (s : ByteArray) (f : Nat → Option (Tm × Nat)) (last : Nat) : Nat → Nat → Option (List Tm × Nat)
 | 0, a => some ([], a)
 | m + 1, a => match f a with
  | none => none
  | some x => if x.2 < s.size ∧ byteAt s x.2 = (if m = 0 then last else 44) then (ptSer s f last m (x.2 + 1)).map fun y => (x.1 :: y.1, y.2) else none
def ptRound (s : ByteArray) (f : Nat → Option (Tm × Nat)) (a : Nat) : Option (Tm × Nat) :=
 match f a with
 | none => none
 | some x => if x.2 < s.size then (match f (x.2 + 1) with
  | none => none
  | some y => if roundKind (byteAt s x.2) ≠ 0 ∧ y.2 < s.size ∧ byteAt s y.2 = 41 then some (.mk (roundKind (byteAt s x.2)) 0 [x.1, y.1], y.2 + 1) else none) else none
def ptLam (s : ByteArray) (f : Nat → Option (Tm × Nat)) (a : Nat) : Option (Tm × Nat) :=
 match f a with
 | none => none
 | some x => if x.2 < s.size ∧ byteAt s x.2 = 93 then (f (x.2 + 1)).map fun y => (.mk 4 0 [x.1, y.1], y.2) else none
def ptBlock (s : ByteArray) (f : Nat → Option (Tm × Nat)) (a : Nat) : Option (Tm × Nat) :=
 if blockKind (byteAt s a) = 0 then none else
 if byteAt s a = 64 ∧ ¬ byteAt s (a + 1) = 60 then none else
 (ptSer s f (blockLast (byteAt s a)) (if blockKind (byteAt s a) = 9 then 4 else 3) (if byteAt s a = 64 then a + 2 else a + 1)).map fun y => (.mk (blockKind (byteAt s a)) 0 y.1, y.2)
def pt (s : ByteArray) : Nat → Nat → Option (Tm × Nat)
 | 0, _ => none
 | d + 1, a => if a < s.size then
   if byteAt s a = 35 then (ptNum s (a + 1) 2).map fun x => (.mk 1 x.1 [], x.2)
   else if byteAt s a = 42 then (ptNum s (a + 1) 1).map fun x => (.mk 2 x.1 [], x.2)
   else if byteAt s a = 78 then some (.mk 6 0 [], a + 1)
   else if byteAt s a = 48 then some (.mk 7 0 [], a + 1)
   else if byteAt s a = 43 ∨ byteAt s a = 33 ∨ byteAt s a = 94 ∨ byteAt s a = 95 then (pt s d (a + 1)).map fun x => (.mk (preKind (byteAt s a)) 0 [x.1], x.2)
   else if byteAt s a = 40 then ptRound s (pt s d) (a + 1)
   else if byteAt s a = 91 then ptLam s (pt s d) (a + 1)
   else ptBlock s (pt s d) a
  else none
theorem ptNum_le {s : ByteArray} {a d : Nat} {x : Nat × Nat} (ha : a ≤ s.size) (h : ptNum s a d = some x) : x.2 ≤ s.size := by
 unfold ptNum at h
 split at h
 ·simp only [Option.some.injEq] at h
  rw [← h]
  exact digRun_in s d a ha
 ·cases h
end Go.Proofs.YtihlbbbajaepoaaGreat
