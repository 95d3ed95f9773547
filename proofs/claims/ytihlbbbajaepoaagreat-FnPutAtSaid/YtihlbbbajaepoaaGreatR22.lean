/-
  PlB.
-/
import Derived.Test.YtihlbbbajaepoaaGreatR04
import Derived.Test.YtihlbbbajaepoaaGreatR17
import Derived.Test.YtihlbbbajaepoaaGreatR21
namespace Go.Proofs.YtihlbbbajaepoaaGreat
open Go.RowKit
theorem CurAt.new (u w1 : World) (t : Tm) (s : Value) (hb : Below u.heap.size u w1) (hs : SlIn u 0 t.kids s) :
  CurAt u w1.heap.size t [] (fun i => i = w1.heap.size ∨ (Value.slice none 0 0).ownBlock = some i) (w1.alloc (.cells #[.int .i64 t.kind, .int .i64 t.num, s, .slice none 0 0] 94)) := by
 refine ⟨View.of_below (bAfter hb (below1 _ _)) ?_, s, [], hs, trivial, by simp, .slice none 0 0, by simpa using heap_new w1 (.cells #[.int .i64 t.kind, .int .i64 t.num, s, .slice none 0 0] 94), by simp, World.ownsRow_nil _ _ _ _, rfl⟩
 rintro i (rfl | h)
 ·exact hb.size
 ·cases h
theorem CurAt.open {u w : World} {g : Nat} {t : Tm} {p : List (Tm × Nat)} {M : Nat → Prop} (h : CurAt u g t p M w) : ∃ a c, g < w.heap.size ∧ w.cell? ⟨g, 0, none⟩ = some (.int .i64 t.kind) ∧ w.cell? ⟨g, 1, none⟩ = some (.int .i64 t.num) ∧ w.cell? ⟨g, 2, none⟩ = some (.slice a t.kids.length c) ∧ SlIn w 0 t.kids (.slice a t.kids.length c) := by
 obtain ⟨h1, s, qs, h2, h3, h4⟩ := h
 obtain ⟨a, c, rfl⟩ := h2.form
 obtain ⟨z, d0, d1, d2, -⟩ := cur_cells h4
 exact ⟨a, c, z, d0, d1, d2, h1.sl h2⟩
def PlacePost (t : Tm) (N : Int → Int) (len : Nat) (w : World) (e : Ending) (w' : World) : Prop :=
 Below w.heap.size w w' ∧ ((IsPlace t N len ∧ ∃ g M, e = .returned (.tuple #[.pointer (some ⟨g, 0, none⟩), .bool true]) ∧ CurAt w g (wayT t N len) (wayP t N len) M w' ∧ ∀ i, M i → w.heap.size ≤ i) ∨ (¬ IsPlace t N len ∧ e = .returned (.tuple #[.pointer none, .bool false])))
set_option maxRecDepth 100000 in
set_option maxHeartbeats 1600000 in
theorem placeI_any (t : Tm) (N : Int → Int) (len : Nat) (hlen : len ≤ 1048576) (w : World) (vt vp : Value) (ht : TmIn w 0 t vt) (hp : Ints w 0 N len vp) :
  Calls Tryz.prog 60 #[vp, vt] w (PlacePost t N len w) := by
 obtain ⟨s, rfl, hs⟩ := ht
 obtain ⟨a, c, rfl⟩ := hs.form
 obtain ⟨pa, pc, pb, po, rfl, hp1, hp2⟩ := hp
 have HPY : Hid (∀ e w', Below w.heap.size w w' → IsPlace t N len → (∃ g M, e = .returned (.tuple #[.pointer (some ⟨g, 0, none⟩), .bool true]) ∧ CurAt w g (wayT t N len) (wayP t N len) M w' ∧ ∀ i, M i → w.heap.size ≤ i) → PlacePost t N len w e w') := tuck fun e w' h1 h2 h3 => ⟨h1, Or.inl ⟨h2, h3⟩⟩
 have HPN : Hid (∀ w', Below w.heap.size w w' → ¬ IsPlace t N len → PlacePost t N len w (.returned (.tuple #[.pointer none, .bool false])) w') := tuck fun w' h1 h2 => ⟨h1, Or.inr ⟨h2, rfl⟩⟩
 generalize PlacePost t N len w = post at *
 have HV := tuck (fun w' (h : SlIn w' 0 t.kids (.slice a t.kids.length c)) => validI_any t w' _ ⟨_, rfl, h⟩)
 have HS := tuck hs
 have HP1 := tuck hp1
 have HP2 := tuck hp2
 have HBX := tuck (VarAt.new w t.kind t.num (.slice a t.kids.length c))
 clear hs hp1 hp2
 have HB0 := tuck (below1 w (.cells #[.int .i64 t.kind, .int .i64 t.num, .slice a t.kids.length c] 34))
 go_enter Tryz.func60, Tryz.ntmps60
 go_wp2_with fail
 generalize w.alloc (.cells #[.int .i64 t.kind, .int .i64 t.num, .slice a t.kids.length c] 34) = W0 at *
 refine (HV.out W0 (HS.out.below HB0.out)).mono ?_
 rintro e w1 ⟨rfl, hb1⟩
 have HB1 := tuck (bAfter HB0.out hb1)
 obtain ⟨z, d0, d1, d2, df⟩ := (HBX.out.below hb1).facts
 clear hb1 HV HB0 HBX
 by_cases hv : t.Valid
 case neg =>
  rw [tr_not hv]
  go_wp2_with fail
  exact HPN.out w1 HB1.out fun h => hv h.1
 rw [tr_of hv]
 have hb2 := bAfter HB1.out (below1 w1 (.cells #[.int .i64 t.kind, .int .i64 t.num, .slice a t.kids.length c, .slice none 0 0] 94))
 have hM : ∀ i, (fun i => i = w1.heap.size ∨ (Value.slice none 0 0).ownBlock = some i) i → w.heap.size ≤ i := by
  rintro i (rfl | h)
  ·exact HB1.out.size
  ·cases h
 obtain ⟨M0, hcur, hM⟩ : ∃ M0 : Nat → Prop, CurAt w w1.heap.size t [] M0 (w1.alloc (.cells #[.int .i64 t.kind, .int .i64 t.num, .slice a t.kids.length c, .slice none 0 0] 94)) ∧ ∀ i, M0 i → w.heap.size ≤ i := ⟨_, CurAt.new w w1 t _ HB1.out HS.out, hM⟩
 have HCUR := tuck hcur
 have HB2 := tuck hb2
 have HM := tuck hM
 clear hcur hb2 hM
 go_wp2_with fail
 generalize w1.alloc (.cells #[.int .i64 t.kind, .int .i64 t.num, .slice a t.kids.length c, .slice none 0 0] 94) = W2 at *
 generalize w1.heap.size = g at *
 go_loopw [17] (fun i wr => ∃ (q : Nat) (p : List (Tm × Nat)) (x : Tm) (M : Nat → Prop), q ≤ len ∧ i = .int .i64 q ∧ Below w.heap.size w wr ∧ way t N q = some (p, x) ∧ CurAt w g x p M wr ∧ ∀ i, M i → w.heap.size ≤ i) (fun i _ => len - (intOf i).toNat)
 case atStart => exact ⟨0, [], t, M0, Nat.zero_le _, rfl, HB2.out, rfl, HCUR.out, HM.out⟩
 case round =>
  obtain ⟨q, p, x, M, hq, rfl, hb, hw, hc, hm⟩ := hrel
  have HB := tuck hb
  have HW := tuck hw
  have HC := tuck hc
  have HMM := tuck hm
  clear hb hw hc hm
  by_cases hlt : q < len
  ·have hlti : ((q : Int) < (len : Int)) := by omega
   obtain ⟨rfl, -, hbl⟩ := HP1.out (by omega)
   have c0 := (HB.out.cell (p := ⟨pb, po + q, none⟩) hbl).trans (HP2.out q hlt)
   have hpb := World.block_lt_of_cell? wr _ c0
   have hk := way_ok hv q p x HW.out
   have hshort := hk.short hv
   have hqi : (0 : Int) ≤ (q : Int) := by omega
   by_cases hi : 0 ≤ N q ∧ N q < (x.kids.length : Int)
   ·obtain ⟨i, hNi⟩ : ∃ i : Nat, N q = (i : Int) := ⟨(N q).toNat, by omega⟩
    have hwy := way_yes HW.out hi
    rw [hNi] at c0 hi hwy
    rw [show ((i : Int)).toNat = i by omega] at hwy
    have HD := tuck (down_yes i (by omega) (by omega) HC.out)
    have HWY := tuck hwy
    clear hi hwy hk hNi
    go_wp2_with fail
    refine HD.out.mono ?_
    rintro e w3 ⟨rfl, M', hst, hc3⟩
    have HST := tuck hst
    have HC3 := tuck hc3
    clear hst hc3
    go_wp2_with fail
    go_roundw
    case rel => exact ⟨q + 1, _, _, M', by omega, by go_num, HST.out.below HB.out HB.out.size HMM.out, HWY.out, HC3.out, HST.out.ge HB.out.size HMM.out⟩
    case measure => simp [intOf]; omega
   ·have HD := tuck (down_no (N q) hi HC.out)
    have hno := no_place HW.out hi hlt
    generalize N q = nq at *
    clear hi hk
    go_wp2_with fail
    refine HD.out.mono ?_
    rintro e w3 ⟨rfl, rfl⟩
    go_wp2_with fail
    exact HPN.out _ HB.out hno
  ·obtain rfl : q = len := by omega
   have hlti : ¬ ((q : Int) < (q : Int)) := by omega
   have hpl := is_place hv HW.out
   rw [← hpl.2.1, ← hpl.2.2] at HC
   have hpi := hpl.1
   clear hlt hpl
   go_wp2_with fail
   exact HPY.out _ _ HB.out hpi ⟨g, M, rfl, HC.out, HMM.out⟩
end Go.Proofs.YtihlbbbajaepoaaGreat
