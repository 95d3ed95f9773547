/-
  DrawRenameTerm.
-/
import Derived.Test.YtmihfbopahoejaaDrawsB
import Derived.Test.YtmihfbopahoejaaIntG
namespace Go.Proofs.Ytmihfbopahoejaa
open Go.RowKit

/-- A term and some numbers. -/
def RenDraw (w : World) (e : Ending) (w' : World) : Prop := ∃ (T : Tm) (v : Value) (n : Nat) (N : Int → Int) (nv : Value), e = .returned (.tuple #[v, nv]) ∧ TmIn w' 0 T v ∧ T.size ≤ 1000 ∧ n ≤ 22 ∧ Ints w' 0 N n nv ∧ Below w.heap.size w w'

theorem OwnN.only {base n g : Nat} {N : Int → Int} {v : Value} {w w' : World} (h : OwnN base n N v w) (ho : Only g w w') (hg : g < base) : OwnN base n N v w' := by
  have h' : w.ownsRow base 3 1 v n _ := h
  refine h'.kept ho (Or.inr fun e => ?_)
  have := (h.lt g e).1
  omega
theorem OwnN.push_any {base n : Nat} {N : Int → Int} {v' : Value} {w1 : World} {x : Int} (h : w1.ownsRow base 3 1 v' (n + 1) (((List.range n).map fun j : Nat => Value.int .i64 (N j)) ++ [.int .i64 x])) : ∃ N', OwnN base (n + 1) N' v' w1 := by
  refine ⟨fun i => if i = n then x else N i, OwnN.push ?_⟩
  have e : ((List.range n).map fun j : Nat => Value.int .i64 (if (j : Int) = n then x else N j)) = ((List.range n).map fun j : Nat => Value.int .i64 (N j)) := by
    refine List.map_congr_left fun j hj => ?_
    have := List.mem_range.1 hj
    rw [if_neg (by omega)]
  rw [e, if_pos rfl]
  exact h
theorem Rd.grown {g : Nat} {a : Option Addr} {len cap p : Nat} {w w' : World} {row : Option Nat} (h : Rd g a len cap p w) (k : w.grownBy w' row) (hr : ∀ x, row = some x → x ≠ g) : Rd g a len cap p w' :=
  (k.block g h.facts.1 (fun e => hr g e.symm rfl)).trans h
theorem OwnN.far3 {base n x : Nat} {N : Int → Int} {v : Value} {w : World} (h : OwnN base n N v w) (hx : x < base) (i j k : Nat) (a b c : Value) : OwnN base n N v (((w.setCell ⟨x, i, none⟩ a).setCell ⟨x, j, none⟩ b).setCell ⟨x, k, none⟩ c) :=
  ownsRow_setCell_below (ownsRow_setCell_below (ownsRow_setCell_below h (a := ⟨x, i, none⟩) hx a) (a := ⟨x, j, none⟩) hx b) (a := ⟨x, k, none⟩) hx c
/-- A number put in the place of the first. -/
theorem OwnN.put0 {base n : Nat} {N : Int → Int} {v : Value} {w : World} (h : OwnN base n N v w) (hn : 0 < n) (x : Int) : ∃ (gr cap : Nat) (N' : Int → Int), v = .slice (some ⟨gr, 0, none⟩) n cap ∧ base ≤ gr ∧ gr < w.heap.size ∧ w.cell? ⟨gr, 0, none⟩ = some (.int .i64 (N 0)) ∧ w.frozen? ⟨gr, 0, none⟩ = false ∧
    OwnN base n N' v (w.setCell ⟨gr, 0, none⟩ (.int .i64 x)) ∧ w.grownBy (w.setCell ⟨gr, 0, none⟩ (.int .i64 x)) (some gr) := by
  have hrow : w.ownsRow base 3 1 v n _ := h
  rcases h.2 with ⟨e1, e2⟩ | ⟨gr, cap, cur, rfl, r1, r2, r3⟩
  · omega
  · obtain ⟨b1, b2, b3⟩ := block_of_cells r2
    obtain ⟨s1, s2⟩ := hrow.stored 0 (.int .i64 x)
    have hc := hrow.cellAt 0 (by omega)
    refine ⟨gr, cap, fun i => if i = 0 then x else N i, rfl, r1, b1, ?_, b3 0, ?_, s2⟩
    · rw [hc]
      simp [hn]
    · have e : ((List.range n).map fun j : Nat => Value.int .i64 (N j)).set 0 (.int .i64 x) = ((List.range n).map fun j : Nat => Value.int .i64 (if (j : Int) = 0 then x else N j)) := by
        refine List.ext_getElem (by simp) fun j h1 h2 => ?_
        simp only [List.getElem_set, List.getElem_map, List.getElem_range]
        by_cases hj : 0 = j
        · subst hj
          simp
        · rw [if_neg hj, if_neg (by omega)]
      rw [e] at s1
      exact s1

set_option maxRecDepth 100000 in
set_option maxHeartbeats 6400000 in
theorem dRenameTerm_any {U : Nat → Int} {a : Option Addr} {b o len cap : Nat} (w : World) (hlen : len ≤ 140737488355328) (hcap : len ≤ cap) (hby : Bytes U a b o len w) : Calls Try.prog 28 #[.slice a len cap] w (RenDraw w) := by
  have HP : Hid (∀ T v n N nv w', TmIn w' 0 T v → T.size ≤ 1000 → n ≤ 22 → Ints w' 0 N n nv → Below w.heap.size w w' → RenDraw w (.returned (.tuple #[v, nv])) w') := fun T v n N nv w' h1 h2 h3 h4 h5 => ⟨T, v, n, N, nv, rfl, h1, h2, h3, h4, h5⟩
  generalize RenDraw w = post at *
  have hz0 : (w.alloc (.cells #[.int .i64 0, .int .i64 0, .slice none 0 0] 25)).heap.size = w.heap.size + 1 := by simp
  have hb0 : Below w.heap.size w (w.alloc (.cells #[.int .i64 0, .int .i64 0, .slice none 0 0] 25)) := below1 _ _
  have HO := tuck (open_any (w.alloc (.cells #[.int .i64 0, .int .i64 0, .slice none 0 0] 25)) hlen hcap (hby.below hb0))
  have hv0 : VarAt w.heap.size 0 0 (.slice none 0 0) (w.alloc (.cells #[.int .i64 0, .int .i64 0, .slice none 0 0] 25)) := VarAt.new w 0 0 (.slice none 0 0)
  clear hby
  go_enter Try.func28, Try.ntmps28
  go_wp2_with fail
  refine HO.out.mono ?_
  rintro e w1 ⟨a', len', cap', he, hl, hbl, hrd, hby, hb1, hz⟩
  generalize w.alloc (.cells #[.int .i64 0, .int .i64 0, .slice none 0 0] 25) = W0 at *
  have hgz : w.heap.size < W0.heap.size := by omega
  have HB := tuck (bAfter hb0 hb1)
  have HV := tuck (hv0.below hb1)
  clear hb1
  generalize W0.heap.size = g at *
  subst he
  subst hz0
  have HBW : Hid (0 < len' → b ≠ w.heap.size + 1) := tuck (fun h => Nat.ne_of_lt (hbl h))
  have HRD := tuck hrd
  have HBY := tuck hby
  clear hrd hby HO hbl hv0 hb0
  have hne : w.heap.size ≠ w.heap.size + 1 := by omega
  go_wp2_with fail
  refine (lany_any _ hl HBW.out (by omega) HRD.out HBY.out).mono ?_
  rintro e w2a ⟨tT, sT, FT, paT, rfl, hso, -, -, hv, hp', hrd, ho⟩
  obtain ⟨saT, scT, rfl⟩ := hso.form
  have hsz : sizes tT.kids ≤ 900 := by have := hv.2.2; have := tT.size_eq; omega
  have HIN := tuck (hso.sl (B := 0) (fun _ _ => Nat.zero_le _))
  replace HB := tuck (Only.below HB.out ho (by omega) HB.out.size)
  replace HBY := tuck (HBY.out.only ho HBW.out)
  replace HV := tuck (HV.out.only ho hne)
  replace HRD := tuck hrd
  have hpaT : paT ≤ 0 + 1876 := by omega
  clear ho hrd hso hv hp'
  go_wp2_with fail
  refine (lmut_any tT _ _ hl HBW.out (by omega) hsz HRD.out HBY.out ⟨_, rfl, HIN.out⟩).mono ?_
  rintro e w2 ⟨TT, vT, pbT, rfl, ⟨s4, rfl, hin⟩, hszT, hp', hrd, ho⟩
  obtain ⟨aT, cT, rfl⟩ := hin.form
  have hlr : w.heap.size + 1 < w2a.heap.size := HRD.out.facts.1
  have HINT := tuck (hin.mono (show w.heap.size + 1 + 1 ≤ _ from hlr))
  have hgeT : w.heap.size + 1 < w2.heap.size := Nat.lt_of_lt_of_le hlr ho.size
  replace HB := tuck (Only.below HB.out ho (by omega) HB.out.size)
  replace HBY := tuck (HBY.out.only ho HBW.out)
  replace HV := tuck (HV.out.only ho hne)
  replace HRD := tuck hrd
  have hpbT : pbT ≤ 0 + 1878 := by omega
  clear ho hin hrd hp' HIN hsz hlr
  have HT := tuck (VarAt.new w2 TT.kind TT.num (.slice aT TT.kids.length cT))
  have hbx := below1 w2 (.cells #[.int .i64 TT.kind, .int .i64 TT.num, .slice aT TT.kids.length cT] 25)
  replace HBY := tuck (HBY.out.below hbx)
  replace HRD := tuck (HRD.out.below hbx)
  replace HV := tuck (HV.out.below hbx)
  replace HINT := tuck (HINT.out.below hbx)
  replace HB := tuck (bAfter HB.out hbx)
  clear hbx
  have hneT : w2.heap.size ≠ w.heap.size + 1 := by omega
  have hzT : (w2.alloc (.cells #[.int .i64 TT.kind, .int .i64 TT.num, .slice aT TT.kids.length cT] 25)).heap.size = w2.heap.size + 1 := by simp
  go_wp2_with fail
  generalize w2.alloc (.cells #[.int .i64 TT.kind, .int .i64 TT.num, .slice aT TT.kids.length cT] 25) = W2 at *
  have HO0 : Hid (OwnN (w2.heap.size + 1) 0 (fun i => i) (.slice (some ⟨w2.heap.size + 1, 0, none⟩) 0 0) (W2.alloc (.cells #[] 3))) := by
    have h := World.ownsRow_lit (base := w2.heap.size + 1) (e := 3) (size := 1) W2 #[] 0 (by omega) (by simp [maxLen]) (by simp)
    rw [hzT] at h
    exact h
  have HU : Hid (Only (w.heap.size + 1) W2 (W2.alloc (.cells #[] 3))) := tuck ((Only.refl _ _).alloc _)
  have hz2 : (W2.alloc (.cells #[] 3)).heap.size = w2.heap.size + 1 + 1 := by simp [hzT]
  replace HRD := tuck (HRD.out.below (below1 W2 (.cells #[] 3)))
  have HL := ints_new [4, 5, 3, 6, 0, 21, 22] (W2.alloc (.cells #[] 3)) 3
  rw [hz2] at HL
  have HZT := tuck hzT
  have hbx := below1 (W2.alloc (.cells #[] 3)) (.cells #[.int .i64 4, .int .i64 5, .int .i64 3, .int .i64 6, .int .i64 0, .int .i64 21, .int .i64 22] 3)
  replace HRD := tuck (HRD.out.below hbx)
  replace HO0 := tuck (HO0.out.below hbx)
  replace HU := tuck (HU.out.of_below hbx)
  clear hbx
  refine (num_any (N := fun i => ([4, 5, 3, 6, 0, 21, 22] : List Int).getD i 0) (o2 := 0) (n := 7) _ hl (by omega) (by omega) (by omega) HRD.out (HBY.out.only HU.out HBW.out) HBW.out HL (by omega)).mono ?_
  rintro e w3 ⟨i, hi, he, hrd, ho⟩
  obtain ⟨c, hc, hc2⟩ : ∃ c : Nat, ([4, 5, 3, 6, 0, 21, 22] : List Int).getD i 0 = c ∧ c ≤ 22 := by
    have := (by decide : ∀ i < 7, 0 ≤ ([4, 5, 3, 6, 0, 21, 22] : List Int).getD i 0 ∧ ([4, 5, 3, 6, 0, 21, 22] : List Int).getD i 0 ≤ 22) i hi
    exact ⟨(([4, 5, 3, 6, 0, 21, 22] : List Int).getD i 0).toNat, by omega, by omega⟩
  obtain rfl : e = .returned (.int .i64 c) := by rw [← hc]; exact he
  clear he hc hi HL
  replace HU := tuck (HU.out.trans ho)
  replace HO0 := tuck (HO0.out.only ho (by omega))
  replace HRD := tuck hrd
  clear ho hrd
  clear hzT hz2
  go_wp2_with fail
  go_loopw [6, 7] (fun v i wr => ∃ (n c p : Nat) (N : Int → Int), n + c ≤ 22 ∧ p ≤ 2000 + n ∧ i = .int .i64 c ∧ OwnN (w2.heap.size + 1) n N v wr ∧ Only (w.heap.size + 1) W2 wr ∧ Rd (w.heap.size + 1) a' len' cap' p wr) (fun _ i _ => (intOf i).toNat)
  case atStart => exact ⟨0, c, pbT + 1, _, by omega, by omega, rfl, HO0.out, HU.out, HRD.out⟩
  case round =>
    obtain ⟨n, c, p, N, hnc, hp, rfl, ho, hu, hr⟩ := hrel
    clear HO0 HU HRD
    have HO := tuck ho
    have HU := tuck hu
    have HRD := tuck hr
    clear ho hu hr
    have hzr : w2.heap.size + 1 ≤ wr.heap.size := by have := HU.out.size; have := HZT.out; omega
    by_cases hlt : 0 < c
    · have hlti : ((0 : Int) < (c : Int)) := by omega
      go_wp2_with fail
      have HL := ints_new [0, 1, 2, 3, 1, 0, 17] wr 3
      have hbx := below1 wr (.cells #[.int .i64 0, .int .i64 1, .int .i64 2, .int .i64 3, .int .i64 1, .int .i64 0, .int .i64 17] 3)
      replace HRD := tuck (HRD.out.below hbx)
      replace HO := tuck (HO.out.below hbx)
      replace HU := tuck (HU.out.of_below hbx)
      clear hbx
      refine (num_any (N := fun i => ([0, 1, 2, 3, 1, 0, 17] : List Int).getD i 0) (o2 := 0) (n := 7) _ hl (by omega) (by omega) (by omega) HRD.out (HBY.out.only HU.out HBW.out) HBW.out HL (by omega)).mono ?_
      rintro e w4 ⟨i, hi, he, hrd, ho⟩
      obtain ⟨x, hx⟩ : ∃ x : Int, ([0, 1, 2, 3, 1, 0, 17] : List Int).getD i 0 = x := ⟨_, rfl⟩
      obtain rfl : e = .returned (.int .i64 x) := by rw [← hx]; exact he
      clear he hx hi HL
      replace HU := tuck (HU.out.trans ho)
      replace HO := tuck (HO.out.only ho (by omega))
      replace HRD := tuck hrd
      clear ho hrd
      have hzb : w2.heap.size + 1 ≤ w4.heap.size := by have := HU.out.size; have := HZT.out; omega
      obtain ⟨i0, hi, hz0, hz1, hz2'⟩ := info_parts info_int
      go_wp2_with (at_builtin; refine wpList_append_own _ rfl _ _ 40 rfl (w2.heap.size + 1) 3 i0 (.int .i64 0) 1 8 Try.underlying40 hi hz0 hz1 hz2' rfl (by decide) _ _ _ rfl (World.ownsRow.alloc HO.out _) ⟨_, 0, none⟩ 1 1 [.int .i64 x] rfl rfl (cell_one_new _ _ _) (by intro u hu; simp at hu; subst hu; rfl) (by unfold maxLen; omega) (by omega) (by simp; omega) ?_; intro vN wN hownN hgrowN _)
      obtain ⟨N', ho'⟩ := OwnN.push_any hownN
      have HO' := tuck ho'
      have HU' : Hid (Only (w.heap.size + 1) W2 wN) := tuck ((HU.out.alloc _).grown hgrowN (fun x hx => by have := (HO.out.lt x hx).1; have := HZT.out; omega))
      have HRD' := tuck ((HRD.out.below (below1 _ _)).grown hgrowN (fun x hx => by have := (HO.out.lt x hx).1; omega))
      clear hownN hgrowN ho'
      go_wp2_with fail
      go_roundw
      case rel => exact ⟨n + 1, c - 1, p + 1, N', by omega, by omega, by go_num, HO'.out, HU'.out, HRD'.out⟩
      case measure => simp [intOf]; omega
    · have hge2 : ¬ ((0 : Int) < (c : Int)) := by omega
      obtain ⟨av, cv, rfl⟩ := HO.out.form
      by_cases hn : 0 < n
      · have hnd : decide ((0 : Int) < (n : Int)) = true := by simpa using hn
        go_wp2_with fail
        refine (pick_any (n := 16) _ hl (by omega) (by omega) (by omega) HRD.out (HBY.out.only HU.out HBW.out) HBW.out).mono ?_
        rintro e w4 ⟨x, rfl, hx0, hx1, hrd, ho⟩
        replace HU := tuck (HU.out.trans ho)
        replace HO := tuck (HO.out.only ho (by omega))
        replace HRD := tuck hrd
        clear ho hrd
        by_cases hx : x = 0
        · have hx' : (x == 0) = true := by simpa using hx
          go_wp2_with fail
          have hz4 : w2.heap.size + 1 ≤ w4.heap.size := by have := HU.out.size; have := HZT.out; omega
          have HL := ints_new [-1, 21, 20] w4 3
          have hbx := below1 w4 (.cells #[.int .i64 (-1), .int .i64 21, .int .i64 20] 3)
          replace HRD := tuck (HRD.out.below hbx)
          replace HO := tuck (HO.out.below hbx)
          replace HU := tuck (HU.out.of_below hbx)
          clear hbx
          refine (num_any (N := fun i => ([-1, 21, 20] : List Int).getD i 0) (o2 := 0) (n := 3) _ hl (by omega) (by omega) (by omega) HRD.out (HBY.out.only HU.out HBW.out) HBW.out HL (by omega)).mono ?_
          rintro e w5 ⟨i, hi, he, hrd, ho⟩
          obtain ⟨y, hy⟩ : ∃ y : Int, ([-1, 21, 20] : List Int).getD i 0 = y := ⟨_, rfl⟩
          obtain rfl : e = .returned (.int .i64 y) := by rw [← hy]; exact he
          clear he hy hi HL
          replace HU := tuck (HU.out.trans ho)
          replace HO := tuck (HO.out.only ho (by omega))
          clear ho hrd
          obtain ⟨gr, cap2, N', hv, hg1, hg2, hcell, hfr, ho', hgr⟩ := HO.out.put0 hn y
          injection hv with e1 _ e2
          subst e1 e2
          have HO' := tuck ho'
          have HU' : Hid (Only (w.heap.size + 1) W2 (w5.setCell ⟨gr, 0, none⟩ (.int .i64 y))) := tuck (HU.out.grown hgr (fun z hz => by injection hz with hz; have := HZT.out; omega))
          have hgt : gr ≠ w2.heap.size := by omega
          have hgv : gr ≠ w.heap.size := by omega
          clear HO ho' hgr
          have hn1 : (0 : Int) < (n : Int) := by omega
          obtain ⟨zt, t0, t1, t2, tf⟩ := (HT.out.only HU.out hneT).facts
          obtain ⟨zv, v0, v1, v2, vf⟩ := (HV.out.only HU.out hne).facts
          have HB5 := tuck (Only.below HB.out HU'.out (by omega) HB.out.size)
          have HI5 := tuck (HINT.out.onlyR HU'.out (by omega))
          go_wp2_with fail
          refine bodyPost_ret (v := .tuple #[.agg #[.int .i64 TT.kind, .int .i64 TT.num, .slice aT TT.kids.length cT], .slice (some ⟨gr, 0, none⟩) n cv]) (by simp [results, Try.results28, go_sem, *]) rfl (HP.out TT _ n _ _ _ ⟨_, rfl, (HI5.out.set3 (by omega)).mono (Nat.zero_le _)⟩ hszT (by omega) ((HO'.out.far3 (show w.heap.size < w2.heap.size + 1 by omega) _ _ _ _ _ _).ints) (bSet3 HB5.out (Nat.le_refl _) _ _ _ _ _ _))
        · have hx' : (x == 0) = false := by simpa using hx
          have HV5 := HV.out.only HU.out hne
          have HT5 := HT.out.only HU.out hneT
          have HB5 := tuck (Only.below HB.out HU.out (by omega) HB.out.size)
          have HI5 := tuck (HINT.out.onlyR HU.out (by omega))
          obtain ⟨zt, t0, t1, t2, tf⟩ := HT5.facts
          obtain ⟨zv, v0, v1, v2, vf⟩ := HV5.facts
          clear HV5 HT5
          go_wp2_with fail
          refine bodyPost_ret (v := .tuple #[.agg #[.int .i64 TT.kind, .int .i64 TT.num, .slice aT TT.kids.length cT], .slice av n cv]) (by simp [results, Try.results28, go_sem, *]) rfl (HP.out TT _ n _ _ _ ⟨_, rfl, (HI5.out.set3 (by omega)).mono (Nat.zero_le _)⟩ hszT (by omega) ((HO.out.far3 (show w.heap.size < w2.heap.size + 1 by omega) _ _ _ _ _ _).ints) (bSet3 HB5.out (Nat.le_refl _) _ _ _ _ _ _))
      · have hnd : decide ((0 : Int) < (n : Int)) = false := by simpa using hn
        have HV5 := HV.out.only HU.out hne
        have HT5 := HT.out.only HU.out hneT
        have HB5 := tuck (Only.below HB.out HU.out (by omega) HB.out.size)
        have HI5 := tuck (HINT.out.onlyR HU.out (by omega))
        obtain ⟨zt, t0, t1, t2, tf⟩ := HT5.facts
        obtain ⟨zv, v0, v1, v2, vf⟩ := HV5.facts
        clear HV5 HT5
        go_wp2_with fail
        refine bodyPost_ret (v := .tuple #[.agg #[.int .i64 TT.kind, .int .i64 TT.num, .slice aT TT.kids.length cT], .slice av n cv]) (by simp [results, Try.results28, go_sem, *]) rfl (HP.out TT _ n _ _ _ ⟨_, rfl, (HI5.out.set3 (by omega)).mono (Nat.zero_le _)⟩ hszT (by omega) ((HO.out.far3 (show w.heap.size < w2.heap.size + 1 by omega) _ _ _ _ _ _).ints) (bSet3 HB5.out (Nat.le_refl _) _ _ _ _ _ _))
end Go.Proofs.Ytmihfbopahoejaa
