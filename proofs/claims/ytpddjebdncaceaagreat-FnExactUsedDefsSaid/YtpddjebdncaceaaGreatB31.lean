/-
  DuA.
-/
import Derived.Test.YtpddjebdncaceaaGreatB14
import Derived.Test.YtpddjebdncaceaaGreatB27
import Derived.Test.YtpddjebdncaceaaGreatB30
namespace Go.Proofs.YtpddjebdncaceaaGreat
open Go.RowKit
set_option linter.unusedVariables false
set_option linter.unusedSimpArgs false
def dirU (t : Tm) (n : Nat) : Nat → Bool := fun k => decide (0 < t.times ((n : Int) - 1 - (k : Int)))
def bodyAt (l : List (Tm × Tm)) (i : Nat) : Tm := (l.getD i (zeroT, zeroT)).2
def stepU (l : List (Tm × Tm)) (u : Nat → Bool) (i : Nat) : Nat → Bool := fun k => u k || (decide (k < i) && u i && decide (0 < (bodyAt l i).times ((i : Int) - 1 - (k : Int))))
def afterU (l : List (Tm × Tm)) (t : Tm) : Nat → Nat → Bool
 | 0 => dirU t l.length
 | m + 1 => stepU l (afterU l t m) (l.length - 1 - m)
def UsedOk (l : List (Tm × Tm)) (t : Tm) : Prop := DefsOk l ∧ t.Valid ∧ maxFreeOf t ≤ l.length
noncomputable def usedL (l : List (Tm × Tm)) (t : Tm) : List Nat := open Classical in if UsedOk l t then (List.range l.length).filter (afterU l t l.length) else []
def natAt (L : List Nat) : Int → Int := fun j => ((L.getD j.toNat 0 : Nat) : Int)
theorem natAt_eq (L : List Nat) (j : Nat) (h : j < L.length) : natAt L (j : Int) = (L[j] : Int) := by
 unfold natAt
 rw [Int.toNat_natCast, List.getD_eq_getElem?_getD, List.getElem?_eq_getElem h]
 rfl
def BoolsAt (g n : Nat) (u : Nat → Bool) (w : World) : Prop := ∃ cs : Array Value, w.heap[g]? = some (.cells cs 4 (0, 0)) ∧ cs.size = n ∧ ∀ j, j < n → cs[j]? = some (.bool (u j))
theorem BoolsAt.below {g n : Nat} {u : Nat → Bool} {w w' : World} (h : BoolsAt g n u w) (hb : Below w.heap.size w w') : BoolsAt g n u w' := by
 obtain ⟨cs, h1, h2, h3⟩ := h
 exact ⟨cs, (hb.block g (block_of_cells h1).1).trans h1, h2, h3⟩
theorem BoolsAt.cell {g n : Nat} {u : Nat → Bool} {w : World} (h : BoolsAt g n u w) {j : Nat} (hj : j < n) : w.cell? ⟨g, j, none⟩ = some (.bool (u j)) ∧ (∀ i, w.frozen? ⟨g, i, none⟩ = false) ∧ g < w.heap.size := by
 obtain ⟨cs, h1, h2, h3⟩ := h
 obtain ⟨b1, b2, b3⟩ := block_of_cells h1
 exact ⟨(b2 j).trans (h3 j hj), b3, b1⟩
theorem BoolsAt.set {g n : Nat} {u : Nat → Bool} {w : World} (h : BoolsAt g n u w) {j : Nat} (hj : j < n) (b : Bool) : BoolsAt g n (fun k => if k = j then b else u k) (w.setCell ⟨g, j, none⟩ (.bool b)) := by
 obtain ⟨cs, h1, h2, h3⟩ := h
 refine ⟨_, block_set h1 j (.bool b), by simp [h2], fun k hk => ?_⟩
 by_cases e : k = j
 ·subst e
  show _ = some (Value.bool (if k = k then b else u k))
  rw [if_pos rfl, Array.getElem?_setIfInBounds_self_of_lt (by omega)]
 ·show _ = some (Value.bool (if k = j then b else u k))
  rw [if_neg e, Array.getElem?_setIfInBounds_ne (fun h => e h.symm)]
  exact h3 k hk
theorem BoolsAt.congr {g n : Nat} {u u' : Nat → Bool} {w : World} (h : BoolsAt g n u w) (hu : ∀ k, k < n → u' k = u k) : BoolsAt g n u' w := by
 obtain ⟨cs, h1, h2, h3⟩ := h
 exact ⟨cs, h1, h2, fun j hj => by rw [hu j hj]; exact h3 j hj⟩
theorem own_keep {A B : World} {base n size : Nat} {e : TypeId} {v : Value} {xs : List Value} (h : A.ownsRow base e size v n xs) (hk : ∀ q, v.ownBlock = some q → B.heap[q]? = A.heap[q]?) : B.ownsRow base e size v n xs :=
 ⟨h.1, h.2.imp id fun ⟨q, cap, cur, e1, hb, hq, rest⟩ => ⟨q, cap, cur, e1, hb, (hk q (by rw [e1]; rfl)).trans hq, rest⟩⟩
theorem info_bool : (Tryz.prog.info? 4).map (fun i => (i.zero, i.size, i.bytes)) = some (some (.bool false), 1, 1) := by kernel_rfl
theorem defs_valid {l : List (Tm × Tm)} (h : DefsOk l) (i : Nat) (hi : i < l.length) : l[i].1.Valid ∧ l[i].2.Valid := by
 have key : ∀ t : Tm, 0 ≤ maxFreeOf t → t.Valid := fun t h => Classical.byContradiction fun hn => by
  unfold maxFreeOf at h
  rw [if_neg hn] at h
  omega
 exact ⟨key _ (h.2 i hi).1.1, key _ (h.2 i hi).2.1⟩
theorem ownN_ints {base n : Nat} {N : Int → Int} {v : Value} {w : World} (h : OwnN base n N v w) : Ints w base N n v := by
 have hrow : w.ownsRow base 3 1 v n _ := h
 rcases h.2 with ⟨e1, e2⟩ | ⟨g, cap, cur, rfl, r1, r2, r3⟩
 ·subst e2
  exact ⟨none, 0, 0, 0, e1, fun h => by omega, fun i hi => by omega⟩
 ·obtain ⟨b1, b2, b3⟩ := block_of_cells r2
  refine ⟨_, cap, g, 0, rfl, fun _ => ⟨rfl, r1, b1⟩, fun i hi => ?_⟩
  have := hrow.cells (g := g) rfl i (.int .i64 (N i)) (by simp [hi])
  have hadd : (⟨g, 0, none⟩ : Addr).add i = ⟨g, i, none⟩ := by unfold Addr.add; split <;> simp_all
  rw [hadd] at this
  rw [Nat.zero_add]
  exact this
theorem filter_at {u : Nat → Bool} {q n : Nat} (hq : q < n) (hu : u q = true) : natAt ((List.range n).filter u) (((List.range q).filter u).length : Nat) = (q : Int) := by
 have e : List.range n = List.range q ++ (List.range (n - q)).map (q + ·) := by
  rw [← List.range_add, show q + (n - q) = n by omega]
 obtain ⟨r, hr⟩ : ∃ r, n - q = r + 1 := ⟨n - q - 1, by omega⟩
 rw [e, hr, List.range_succ_eq_map, List.map_cons, List.filter_append, Nat.add_zero, List.filter_cons_of_pos hu]
 unfold natAt
 rw [Int.toNat_natCast, List.getD_eq_getElem?_getD, List.getElem?_append_right (Nat.le_refl _)]
 simp
def UsPost (w : World) (L : List Nat) (e : Ending) (w' : World) : Prop := Below w.heap.size w w' ∧ ∃ a c, e = .returned (.slice a L.length c) ∧ Ints w' w.heap.size (natAt L) L.length (.slice a L.length c)
set_option maxRecDepth 100000 in
set_option maxHeartbeats 4000000 in
theorem usedDefsS_any (l : List (Tm × Tm)) (t : Tm) (w : World) (v vt : Value) (hin : DfIn w 0 l v) (ht : TmIn w 0 t vt) : Calls Tryz.prog 8 #[v, vt] w (UsPost w (usedL l t)) := by
 obtain ⟨s, rfl, hs⟩ := ht
 obtain ⟨ta, tc, rfl⟩ := hs.form
 obtain ⟨a, cap, rfl⟩ := hin.form
 have HIN := tuck hin
 have HS := tuck hs
 obtain ⟨bd, hbd⟩ : ∃ b, b = tr (DefsOk l) := ⟨_, rfl⟩
 obtain ⟨bv, hbv⟩ : ∃ b, b = tr t.Valid := ⟨_, rfl⟩
 obtain ⟨m, hm⟩ : ∃ m, m = maxFreeOf t := ⟨_, rfl⟩
 have HV : Hid (∀ W, Below w.heap.size w W → Calls Tryz.prog 31 #[.slice a l.length cap] W (BoolPost W bd)) := tuck fun W h => by rw [hbd]; exact defsValidS_any l W _ (HIN.out.below h)
 have HT : Hid (∀ W, Below w.heap.size w W → Calls Tryz.prog 32 #[.agg #[.int .i64 t.kind, .int .i64 t.num, .slice ta t.kids.length tc]] W (BoolPost W bv)) := tuck fun W h => by rw [hbv]; exact validS_any t W _ ⟨_, rfl, HS.out.below h⟩
 have HM : Hid (∀ W, Below w.heap.size w W → Calls Tryz.prog 33 #[.agg #[.int .i64 t.kind, .int .i64 t.num, .slice ta t.kids.length tc]] W (IntPost W m)) := tuck fun W h => by rw [hm]; exact maxFreeS_any t W _ ⟨_, rfl, HS.out.below h⟩
 have hbx := below2 w (.cells #[.int .i64 t.kind, .int .i64 t.num, .slice ta t.kids.length tc] 34) (.cells #[] 3)
 have HVT := tuck ((VarAt.new w t.kind t.num (.slice ta t.kids.length tc)).below (below1 _ (.cells #[] 3)))
 have HR0 := tuck (World.ownsRow_made (base := w.heap.size) (e := 3) (size := 1) (w.alloc (.cells #[.int .i64 t.kind, .int .i64 t.num, .slice ta t.kids.length tc] 34)) #[] 0 (by simp) (by simp [maxLen]) rfl)
 have HB := tuck hbx
 clear hbx
 by_cases hok : UsedOk l t
 ·obtain ⟨hd, hv, hmn⟩ := hok
  have h0 : usedL l t = (List.range l.length).filter (afterU l t l.length) := by unfold usedL; rw [if_pos ⟨hd, hv, hmn⟩]
  rw [h0]
  have HTV := tuck hv
  have hn8 : l.length ≤ 8 := hd.1
  have HDV := tuck (defs_valid hd)
  have hbt : bd = true := by rw [hbd, tr_of hd]
  have hbt2 : bv = true := by rw [hbv, tr_of hv]
  subst hbt
  subst hbt2
  have hdd : decide ((l.length : Int) < m) = false := decide_eq_false (by rw [hm]; omega)
  obtain ⟨a', cap', b, o, he, -, hp, hc⟩ := hin
  simp only [Value.slice.injEq, true_and] at he
  obtain ⟨rfl, rfl⟩ := he
  have HPP := tuck hp
  have HC := tuck hc
  clear hbd hbv hm hs h0 hd hv hmn hp hc
  obtain ⟨U, hU⟩ : ∃ U, U = afterU l t l.length := ⟨_, rfl⟩
  rw [← hU]
  have HUE := tuck hU
  clear hU
  have HP : Hid (∀ W va c, Below w.heap.size w W → Ints W w.heap.size (natAt ((List.range l.length).filter U)) ((List.range l.length).filter U).length (.slice va ((List.range l.length).filter U).length c) → UsPost w ((List.range l.length).filter U) (.returned (.slice va ((List.range l.length).filter U).length c)) W) := tuck fun W va c hb hi => ⟨hb, va, c, rfl, hi⟩
  generalize UsPost w ((List.range l.length).filter U) = post at *
  obtain ⟨i0, hi, hz0, hz1', hz2⟩ := info_parts info_bool
  have hmk : ∀ W : World, (Instr.makeSlice 62 (.int .i64 (l.length : Int)) (.int .i64 (l.length : Int))).run Tryz.prog W = .ok (.slice (some ⟨W.heap.size, 0, none⟩) l.length l.length) (W.alloc (.cells (madeCells #[.bool false] l.length) 4)) := fun W => by
   have h := run_make (P := Tryz.prog) W 62 4 i0 _ Tryz.underlying62 hi hz0 .i64 .i64 (l.length : Int) (l.length : Int) (by omega) (Int.le_refl _) (by rw [hz2]; omega) (by omega)
   rw [hz1'] at h
   simpa [Value.cells] using h
  clear hi hz0 hz1' hz2
  go_enter Tryz.func8, Tryz.ntmps8
  go_wp2_with fail
  have hgr : (w.alloc (.cells #[.int .i64 t.kind, .int .i64 t.num, .slice ta t.kids.length tc] 34)).heap.size = w.heap.size + 1 := by simp
  rw [hgr] at HR0
  generalize (w.alloc (.cells #[.int .i64 t.kind, .int .i64 t.num, .slice ta t.kids.length tc] 34)).alloc (.cells #[] 3) = W0 at *
  clear hgr
  refine (HV.out _ HB.out).mono ?_
  rintro e w1 ⟨rfl, hb⟩
  replace HB := tuck (bAfter HB.out hb)
  replace HVT := tuck (HVT.out.below hb)
  replace HR0 := tuck (HR0.out.kept (grown_none hb) (by simp [Value.ownBlock]))
  clear hb
  obtain ⟨z0, c0, c1, c2, cf⟩ := HVT.out.facts
  go_wp2_with fail
  refine (HT.out _ HB.out).mono ?_
  rintro e w2 ⟨rfl, hb⟩
  replace HB := tuck (bAfter HB.out hb)
  replace HVT := tuck (HVT.out.below hb)
  replace HR0 := tuck (HR0.out.kept (grown_none hb) (by simp [Value.ownBlock]))
  clear z0 c0 c1 c2 cf hb
  obtain ⟨z0, c0, c1, c2, cf⟩ := HVT.out.facts
  go_wp2_with fail
  refine (HM.out _ HB.out).mono ?_
  rintro e w3 ⟨rfl, hb⟩
  replace HB := tuck (bAfter HB.out hb)
  replace HVT := tuck (HVT.out.below hb)
  replace HR0 := tuck (HR0.out.kept (grown_none hb) (by simp [Value.ownBlock]))
  clear z0 c0 c1 c2 cf hb HV HT HM
  have hbz := below1 w3 (.cells (madeCells #[.bool false] l.length) 4)
  have HU0 := tuck (show BoolsAt w3.heap.size l.length (fun _ => false) (w3.alloc (.cells (madeCells #[.bool false] l.length) 4)) from ⟨_, heap_new _ _, by rw [size_madeCells], fun j hj => by rw [madeCells_get (by omega)]; simp [Nat.mod_one]⟩)
  have HG := tuck (show w.heap.size + 1 < w3.heap.size from HR0.out.lt _ rfl |>.2)
  replace HB := tuck (bAfter HB.out hbz)
  replace HVT := tuck (HVT.out.below hbz)
  replace HR0 := tuck (HR0.out.kept (grown_none hbz) (by simp [Value.ownBlock]))
  have HZ3 := tuck (show w3.heap.size < (w3.alloc (.cells (madeCells #[.bool false] l.length) 4)).heap.size by simp)
  clear hbz
  go_wp2_with fail
  generalize w3.alloc (.cells (madeCells #[.bool false] l.length) 4) = W3 at *
  generalize w3.heap.size = g at *
  clear hmk
  have HTM : Hid (∀ W x, Below w.heap.size w W → 0 ≤ x → x ≤ 20 → Calls Tryz.prog 34 #[.agg #[.int .i64 t.kind, .int .i64 t.num, .slice ta t.kids.length tc], .int .i64 x] W (IntPost W (t.times x))) := tuck fun W x hW h1 h2 => by
   have hbd := valid_bounds HTV.out
   have := times_any t.kids t.kind t.num x W _ (by omega) h1 (by omega) (HS.out.below hW)
   rwa [Tm.eta] at this
  go_loopw [7] (fun iv wr => ∃ (q : Nat) (u : Nat → Bool), q ≤ l.length ∧ iv = .int .i64 q ∧ Only g W3 wr ∧ BoolsAt g l.length u wr ∧ ∀ k, k < q → u k = dirU t l.length k) (fun iv _ => l.length - (intOf iv).toNat)
  case atStart => exact ⟨0, _, Nat.zero_le _, rfl, Only.refl _ _, HU0.out, fun k h => absurd h (Nat.not_lt_zero _)⟩
  case round =>
   obtain ⟨q, u, hq, rfl, ho, hu, hall⟩ := hrel
   have HO := tuck ho
   have HU := tuck hu
   have HALL := tuck hall
   have HBW := tuck (Only.below HB.out ho (by have := HG.out; omega) HB.out.size)
   have HVW := tuck (HVT.out.only ho (by have := HG.out; omega))
   clear ho hu hall
   by_cases hlt : q < l.length
   ·have hlti : ((q : Int) < (l.length : Int)) := by omega
    have hqi : (0 : Int) ≤ (q : Int) := by omega
    obtain ⟨z0, c0, c1, c2, cf⟩ := HVW.out.facts
    have HCL := tuck (HTM.out wr ((l.length : Int) - 1 - (q : Int)) HBW.out (by omega) (by omega))
    obtain ⟨x, hx⟩ : ∃ x, x = t.times ((l.length : Int) - 1 - (q : Int)) := ⟨_, rfl⟩
    rw [← hx] at HCL
    have HX := tuck (show decide (0 < x) = dirU t l.length q by unfold dirU; rw [hx])
    clear hx
    go_wp2_with fail
    refine HCL.out.mono ?_
    rintro e w4 ⟨rfl, hb4⟩
    have HU4 := tuck (HU.out.below hb4)
    have HO4 := tuck (HO.out.of_below hb4)
    obtain ⟨d0, df, dz⟩ := HU4.out.cell hlt
    clear z0 c0 c1 c2 cf hb4
    go_wp2_with fail
    go_roundw
    case rel => exact ⟨q + 1, _, by omega, by go_num, HO4.out.setCell (Or.inl rfl) _, HU4.out.set hlt _, fun k hk => by
     by_cases e : k = q
     ·subst e; simp only [if_true]; exact HX.out
     ·simp only [if_neg e]; exact HALL.out k (by omega)⟩
    case measure => simp [intOf]; omega
   ·have hge2 : ¬ ((q : Int) < (l.length : Int)) := by omega
    have HU1 := tuck (show BoolsAt g l.length (afterU l t 0) wr from HU.out.congr fun k hk => (HALL.out k (by omega)).symm)
    have hn1 : (-1 : Int) ≤ (l.length : Int) - 1 := by omega
    have HOX := tuck HO.out
    clear HALL HU hlt
    go_wp2_with fail
    clear HBW HVW HO hge2
    go_loopw [8] (fun iv wv => ∃ m : Nat, m ≤ l.length ∧ iv = .int .i64 ((l.length : Int) - 1 - (m : Int)) ∧ Only g W3 wv ∧ BoolsAt g l.length (afterU l t m) wv) (fun iv _ => (intOf iv + 1).toNat)
    case atStart => exact ⟨0, Nat.zero_le _, by first | rfl | (congr 1; omega) | (simp [go_sem]; try omega), HOX.out, HU1.out⟩
    case round =>
     obtain ⟨m, hm, rfl, ho, hu⟩ := hrel
     by_cases hlt : m < l.length
     rotate_left
     ·have hneg : ¬ (0 : Int) ≤ (l.length : Int) - 1 - (m : Int) := by omega
      have e : m = l.length := by omega
      subst e
      have HO2 := tuck ho
      have HU2 := tuck hu
      clear ho hu
      have HU3 := tuck (show BoolsAt g l.length U wr by rw [HUE.out]; exact HU2.out)
      have HBW := tuck (Only.below HB.out HO2.out (by have := HG.out; omega) HB.out.size)
      have HRW := tuck (show OwnN w.heap.size 0 (natAt ((List.range l.length).filter U)) (.slice (some ⟨w.heap.size + 1, 0, none⟩) 0 0) wr from own_keep (show W3.ownsRow w.heap.size 3 1 (.slice (some ⟨w.heap.size + 1, 0, none⟩) 0 0) 0 [] from HR0.out) fun q hq => HO2.out.block q (HR0.out.lt q hq).2 (fun e => by injection e with e; exact absurd (show w.heap.size + 1 = q by simpa [Value.ownBlock] using hq) (by have := HG.out; omega)))
      clear HU2
      obtain ⟨wo, hwo⟩ : ∃ wo, wo = wr := ⟨_, rfl⟩
      subst hwo
      go_wp2_with fail
      go_loopw [10, 5] (fun iv ov wi => ∃ (q : Nat) (va : Option Addr) (vc : Nat), q ≤ l.length ∧ iv = .int .i64 q ∧ ov = .slice va ((List.range q).filter U).length vc ∧ Below w.heap.size w wi ∧ BoolsAt g l.length U wi ∧ OwnN w.heap.size ((List.range q).filter U).length (natAt ((List.range l.length).filter U)) (.slice va ((List.range q).filter U).length vc) wi ∧ (Value.slice va ((List.range q).filter U).length vc).ownBlock ≠ some g) (fun iv _ _ => l.length - (intOf iv).toNat)
      case atStart => exact ⟨0, _, _, Nat.zero_le _, rfl, rfl, HBW.out, HU3.out, HRW.out, fun e => by
       have h1 : w.heap.size + 1 = g := by simpa [Value.ownBlock] using e
       have := HG.out
       omega⟩
      case round =>
       obtain ⟨q, va, vc, hq, rfl, rfl, hb, hu, hr, hne⟩ := hrel
       have HB4 := tuck hb
       have HU4 := tuck hu
       have HR4 := tuck hr
       have HNE := tuck hne
       clear hb hu hr hne
       by_cases hlt : q < l.length
       rotate_left
       ·have hge2 : ¬ ((q : Int) < (l.length : Int)) := by omega
        have e : q = l.length := by omega
        subst e
        go_wp2_with fail
        exact HP.out _ _ _ HB4.out (ownN_ints HR4.out)
       have hlti : ((q : Int) < (l.length : Int)) := by omega
       have hqi : (0 : Int) ≤ (q : Int) := by omega
       obtain ⟨d0, df, dz⟩ := HU4.out.cell hlt
       cases hUq : U q with
       | false =>
        rw [hUq] at d0
        have HF := tuck (show (List.range (q + 1)).filter U = (List.range q).filter U by rw [List.range_succ, List.filter_append, List.filter_cons_of_neg (by simp [hUq]), List.filter_nil, List.append_nil])
        clear hUq
        go_wp2_with fail
        go_roundw
        case rel => exact ⟨q + 1, va, vc, by omega, by go_num, by rw [HF.out], HB4.out, HU4.out, by rw [HF.out]; exact HR4.out, by rw [HF.out]; exact HNE.out⟩
        case measure => simp [intOf]; try omega
       | true =>
        rw [hUq] at d0
        have HF := tuck (show ((List.range (q + 1)).filter U).length = ((List.range q).filter U).length + 1 by rw [List.range_succ, List.filter_append, List.filter_cons_of_pos (by simp [hUq]), List.filter_nil, List.length_append]; rfl)
        have HAT := tuck (filter_at (u := U) hlt hUq)
        have hcl : ((List.range q).filter U).length ≤ 8 := Nat.le_trans (List.length_filter_le _ _) (by simp; omega)
        clear hUq
        generalize ((List.range q).filter U).length = c at *
        obtain ⟨i0, hi, hz0, hz1, hz2'⟩ := info_parts info_int
        have hq4 : c + 1 ≤ maxLen := by unfold maxLen; omega
        have hqb : (c + 1) * 8 ≤ 140737488355328 := by omega
        go_wp2_with (at_builtin; refine wpList_append_lies _ rfl _ _ _ rfl w.heap.size 3 i0 _ 1 8 Tryz.underlying28 hi hz0 hz1 hz2' rfl (by omega) _ _ _ rfl (World.ownsRow.alloc HR4.out _) ⟨wr.heap.size, 0, none⟩ 1 1 [.int .i64 (q : Int)] rfl rfl ?news ?one (by omega) hq4 hqb ?base (wr.heap.size + 1) ?size ?next)
        case news => exact World.news_of_block (cs := #[.int .i64 (q : Int)]) (t := 3) (fr := (0, 0)) (heap_new wr _)
        case one => first | rfl | simp [Value.oneCell'] | (intro u hu; simp at hu; subst hu; rfl)
        case base => have := HB4.out.size; simp; omega
        case size => simp
        case next =>
         intro gg gcap w4 hown4 hgrow hat hlt4
         have HOWN := tuck (OwnN.push (N := natAt ((List.range l.length).filter U)) (by rw [HAT.out]; exact hown4))
         have HGR := tuck hgrow
         have HAT2 := tuck hat
         clear hown4 hgrow hat
         go_wp2_with fail
         go_roundw
         case rel =>
          refine ⟨q + 1, _, _, by omega, by go_num, by rw [HF.out], HR4.out.after HB4.out HB4.out.size HGR.out, ?_, by rw [HF.out]; exact HOWN.out, ?_⟩
          ·obtain ⟨cs, k1, k2, k3⟩ := HU4.out
           have hgw := (block_of_cells k1).1
           exact ⟨cs, ((HGR.out.block g (by simp; omega) (fun e => HNE.out e.symm)).trans ((below1 wr _).block g hgw)).trans k1, k2, k3⟩
          ·intro e
           rcases HAT2.out with h | h
           ·exact HNE.out (by rw [h]; simpa [Value.ownBlock] using e)
           ·have h1 : gg = g := by simpa [Value.ownBlock] using e
            have := (HU4.out.cell hlt).2.2
            omega
         case measure => simp [intOf]; try omega
     have hpos : (0 : Int) ≤ (l.length : Int) - 1 - (m : Int) := by omega
     obtain ⟨j, hj⟩ : ∃ j : Nat, (j : Int) = (l.length : Int) - 1 - (m : Int) := ⟨l.length - 1 - m, by omega⟩
     have hjl : j < l.length := by omega
     have HJ := tuck (show j = l.length - 1 - m by omega)
     have HJI := tuck hj
     rw [← hj] at hpos ⊢
     clear hj
     obtain ⟨u, hu0⟩ : ∃ u, u = afterU l t m := ⟨_, rfl⟩
     rw [← hu0] at hu
     have HSU := tuck (show afterU l t (m + 1) = stepU l u j by rw [hu0, HJ.out]; rfl)
     have HO2 := tuck ho
     have HU2 := tuck hu
     clear ho hu hu0
     have HBV := tuck (show ∀ W, Only g W3 W → Below w.heap.size w W from fun W h => Only.below HB.out h (by have := HG.out; omega) HB.out.size)
     obtain ⟨wo, hwo⟩ : ∃ wo, wo = wr := ⟨_, rfl⟩
     subst hwo
     go_wp2_with fail
     go_loopw [9] (fun kv wi => ∃ k : Nat, k ≤ j ∧ kv = .int .i64 k ∧ Only g W3 wi ∧ BoolsAt g l.length (fun x => if x < k then stepU l u j x else u x) wi) (fun kv _ => j - (intOf kv).toNat)
     case atStart => exact ⟨0, Nat.zero_le _, rfl, HO2.out, HU2.out.congr fun x _ => by simp⟩
     case round =>
      obtain ⟨k, hk, rfl, hoi, hui⟩ := hrel
      have HOI := tuck hoi
      have HUI := tuck hui
      clear hoi hui
      by_cases hkj : k < j
      rotate_left
      ·have hkd : decide ((k : Int) < (j : Int)) = false := decide_eq_false (by omega)
       have hke : k = j := by omega
       go_wp2_with fail
       go_roundw
       case rel =>
        have hcg : BoolsAt g l.length (stepU l u j) wr := HUI.out.congr fun x hx => by
         by_cases h : x < k
         ·rw [if_pos h]
         ·rw [if_neg h]; unfold stepU; rw [decide_eq_false (by omega)]; simp
        exact ⟨m + 1, by omega, by have := HJI.out; first | (congr 1; push_cast; omega) | (simp; omega), HOI.out, by rw [HSU.out]; exact hcg⟩
       case measure => simp [intOf]; try omega
      have hkd : decide ((k : Int) < (j : Int)) = true := decide_eq_true (by omega)
      have hki : (0 : Int) ≤ (k : Int) ∧ (k : Int) < (l.length : Int) := by omega
      obtain ⟨hki1, hki2⟩ := hki
      have hji : (j : Int) < (l.length : Int) := by omega
      obtain ⟨d0, df, dz⟩ := HUI.out.cell hjl
      simp only [if_neg (show ¬ j < k by omega)] at d0
      cases huj : u j with
      | false =>
       rw [huj] at d0
       have HUJ := tuck huj
       clear huj
       go_wp2_with fail
       go_roundw
       case rel =>
        have hcg : BoolsAt g l.length (stepU l u j) wr := HUI.out.congr fun x hx => by
         by_cases h : x < k
         ·rw [if_pos h]
         ·rw [if_neg h]; unfold stepU; rw [HUJ.out]; simp
        exact ⟨m + 1, by omega, by have := HJI.out; first | (congr 1; push_cast; omega) | (simp; omega), HOI.out, by rw [HSU.out]; exact hcg⟩
       case measure => simp [intOf]; try omega
      | true =>
       rw [huj] at d0
       have HUJ := tuck huj
       clear huj
       obtain ⟨e0, -, -⟩ := HUI.out.cell (show k < l.length by omega)
       simp only [if_neg (show ¬ k < k by omega)] at e0
       cases huk : u k with
       | true =>
        rw [huk] at e0
        have HUK := tuck huk
        clear huk
        go_wp2_with fail
        go_roundw
        case rel => exact ⟨k + 1, by omega, by go_num, HOI.out.setCell (Or.inl rfl) _, (HUI.out.set (show k < l.length by omega) true).congr fun x hx => by
         by_cases h : x = k
         ·subst h; rw [if_pos (by omega)]; simp only [if_true]; unfold stepU; rw [HUK.out]; rfl
         ·simp only [if_neg h]
          by_cases h2 : x < k
          ·rw [if_pos h2, if_pos (by omega)]
          ·rw [if_neg h2, if_neg (by omega)]⟩
        case measure => simp [intOf]; omega
       | false =>
        rw [huk] at e0
        have HUK := tuck huk
        clear huk
        obtain ⟨rfl, -, hbw⟩ := HPP.out (by omega)
        obtain ⟨s1, s2, -, -, -, q3, q4, q5, -, hs2⟩ := HC.out j hjl
        obtain ⟨ua, uc, rfl⟩ := hs2.form
        have hcc : ∀ i, wr.cell? ⟨b, i, none⟩ = w.cell? ⟨b, i, none⟩ := fun i => (HBV.out wr HOI.out).cell (p := ⟨b, i, none⟩) hbw
        rw [← hcc] at q3 q4 q5
        have hvv := (HDV.out j hjl).2
        have hbd := valid_bounds hvv
        have hta := times_any l[j].2.kids l[j].2.kind l[j].2.num ((j : Int) - 1 - (k : Int)) wr _ (by omega) (by omega) (by omega) (hs2.below (HBV.out wr HOI.out))
        rw [Tm.eta] at hta
        obtain ⟨x, hx⟩ : ∃ x, x = l[j].2.times ((j : Int) - 1 - (k : Int)) := ⟨_, rfl⟩
        rw [← hx] at hta
        have HTA := tuck hta
        have HX := tuck (show decide (0 < x) = stepU l u j k by
         unfold stepU
         rw [HUK.out, HUJ.out, decide_eq_true hkj, hx]
         have hb : bodyAt l j = l[j].2 := by unfold bodyAt; rw [List.getD_eq_getElem?_getD, List.getElem?_eq_getElem hjl]; rfl
         rw [hb]
         simp)
        clear hta hx hvv hbd hcc hs2
        generalize l[j] = y at *
        obtain ⟨y1, y2⟩ := y
        simp only at HTA q3 q4 q5
        go_wp2_with fail
        refine HTA.out.mono ?_
        rintro e w5 ⟨rfl, hb5⟩
        have HU5 := tuck (HUI.out.below hb5)
        have HO5 := tuck (HOI.out.of_below hb5)
        clear d0 df dz e0 q3 q4 q5 hb5
        obtain ⟨d0, df, dz⟩ := HU5.out.cell (show k < l.length by omega)
        go_wp2_with fail
        go_roundw
        case rel => exact ⟨k + 1, by omega, by go_num, HO5.out.setCell (Or.inl rfl) _, (HU5.out.set (show k < l.length by omega) _).congr fun x hx => by
         by_cases h : x = k
         ·subst h; rw [if_pos (by omega)]; simp only [if_true]; exact HX.out.symm
         ·simp only [if_neg h]
          by_cases h2 : x < k
          ·rw [if_pos h2, if_pos (by omega)]
          ·rw [if_neg h2, if_neg (by omega)]⟩
        case measure => simp [intOf]; omega
 ·have h0 : usedL l t = [] := by unfold usedL; rw [if_neg hok]
  rw [h0]
  have HP : Hid (∀ W va c, Below w.heap.size w W → UsPost w [] (.returned (.slice va 0 c)) W) := tuck fun W va c hb => ⟨hb, va, c, rfl, va, c, 0, 0, rfl, fun h => absurd h (by simp), fun i h => absurd h (by simp)⟩
  generalize UsPost w [] = post at *
  have hcs : bd = false ∨ (bd = true ∧ bv = false) ∨ (bd = true ∧ bv = true ∧ (l.length : Int) < m) := by
   rw [hbd, hbv, hm]
   by_cases h1 : DefsOk l
   ·by_cases h2 : t.Valid
    ·exact Or.inr (Or.inr ⟨tr_of h1, tr_of h2, Classical.byContradiction fun h3 => hok ⟨h1, h2, by omega⟩⟩)
    ·exact Or.inr (Or.inl ⟨tr_of h1, tr_not h2⟩)
   ·exact Or.inl (tr_not h1)
  clear hbd hbv hm hin hs hok h0
  go_enter Tryz.func8, Tryz.ntmps8
  go_wp2_with fail
  generalize (w.alloc (.cells #[.int .i64 t.kind, .int .i64 t.num, .slice ta t.kids.length tc] 34)).alloc (.cells #[] 3) = W0 at *
  refine (HV.out _ HB.out).mono ?_
  rintro e w1 ⟨rfl, hb⟩
  replace HB := tuck (bAfter HB.out hb)
  replace HVT := tuck (HVT.out.below hb)
  clear hb
  rcases hcs with rfl | ⟨rfl, rfl⟩ | ⟨rfl, rfl, hlt⟩
  ·go_wp2_with fail
   exact HP.out _ _ _ HB.out
  ·obtain ⟨z0, c0, c1, c2, cf⟩ := HVT.out.facts
   go_wp2_with fail
   refine (HT.out _ HB.out).mono ?_
   rintro e w2 ⟨rfl, hb⟩
   replace HB := tuck (bAfter HB.out hb)
   clear hb
   go_wp2_with fail
   exact HP.out _ _ _ HB.out
  ·have hdd : decide ((l.length : Int) < m) = true := decide_eq_true hlt
   obtain ⟨z0, c0, c1, c2, cf⟩ := HVT.out.facts
   go_wp2_with fail
   refine (HT.out _ HB.out).mono ?_
   rintro e w2 ⟨rfl, hb⟩
   replace HB := tuck (bAfter HB.out hb)
   clear z0 c0 c1 c2 cf
   obtain ⟨z0, c0, c1, c2, cf⟩ := (HVT.out.below hb).facts
   clear hb
   go_wp2_with fail
   refine (HM.out _ HB.out).mono ?_
   rintro e w3 ⟨rfl, hb⟩
   replace HB := tuck (bAfter HB.out hb)
   clear hb
   go_wp2_with fail
   exact HP.out _ _ _ HB.out
end Go.Proofs.YtpddjebdncaceaaGreat
