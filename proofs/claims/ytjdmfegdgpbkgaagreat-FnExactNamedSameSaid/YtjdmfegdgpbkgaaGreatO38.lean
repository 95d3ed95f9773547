/-
  NmD.
-/
import Derived.Test.YtjdmfegdgpbkgaaGreatO37
namespace Go.Proofs.YtjdmfegdgpbkgaaGreat
open Go.RowKit
set_option linter.unusedVariables false
theorem nct_in {s : ByteArray} {d : Nat} {L : List Int} {a c : Nat} {x : Tm × Nat × Nat} (ha : a ≤ s.size) (hc : c ≤ 400) (h : nct s d L a c = some x) : x.2.1 ≤ s.size ∧ x.2.2 ≤ 400 := by
 induction d generalizing L a c x with
 | zero => rw [nct] at h; cases h
 | succ d ih =>
  obtain ⟨h1, h2, h3, h4, h5⟩ := sound_nct s (d + 1) L a c x h
  refine ⟨?_, h4 hc⟩
  exact npt_le s (d + 1) L a _ h1
theorem nct_full (s : ByteArray) (d : Nat) (L : List Int) (a c : Nat) (h : 400 ≤ c) : nct s d L a c = none := by
 cases d with
 | zero => rfl
 | succ d => rw [nct, if_pos h]
def nvOut (L : List Int) (b : Int) (a c : Nat) : Option (Tm × Nat × Nat) := (nVar L b).map fun (k : Nat) => (.mk 1 (k : Int) [], a, c)
def NTermOk (g : Nat) (s : ByteArray) (fo : Value) (LB d : Nat) : Prop := ∀ (L : List Int) (a c : Nat) (w : World), L.length ≤ LB → RW g s L w → Cur g s a c fo w → a ≤ s.size → c ≤ 400 → Calls Tryz.prog 140 #[.pointer (some ⟨g, 0, none⟩), .int .i64 ((31 - d : Nat) : Int)] w (TmPost g s fo w (nct s d L a c))
set_option maxRecDepth 100000 in
set_option maxHeartbeats 1000000 in
theorem nterm_no (g : Nat) (s : ByteArray) (fo : Value) (d D : Nat) (L : List Int) (a c : Nat) (w : World) (hcu : Cur g s a c fo w) (hc : c ≤ 400) (hD : D ≤ 1000) (hno : c = 400 ∨ 30 < D) (hct : nct s d L a c = none) : Calls Tryz.prog 140 #[.pointer (some ⟨g, 0, none⟩), .int .i64 D] w (TmPost g s fo w (nct s d L a c)) := by
 have hg := hcu.facts.1
 have HNO := tuck (fun w' ht => TmPost.no (g := g) (s := s) (fo := fo) (w := w) (w' := w') hct ht)
 generalize TmPost g s fo w (nct s d L a c) = post at *
 have HE := tuck (rd_enter_no g s a c fo D _ (hcu.below (below1 w (.cells #[.int .i64 0, .int .i64 0, .slice none 0 0] 25))) hc hD hno)
 clear hcu hno hct
 go_enter Tryz.func140, Tryz.ntmps140
 go_wp2_with fail
 refine HE.out.mono ?_
 rintro e w1 ⟨rfl, hw1⟩
 subst hw1
 go_wp2_with fail
 exact bodyPost_ret (v := .tuple #[.agg #[.int .i64 0, .int .i64 0, .slice none 0 0], .bool false]) (by simp [results, Tryz.results140, go_sem, *]) rfl (HNO.out _ (Turn.of_below (below1 w _)))
set_option maxRecDepth 100000 in
set_option maxHeartbeats 4000000 in
theorem nterm_succ (g : Nat) (s : ByteArray) (hs : s.size ≤ 1152921504606846976) (fo : Value) (Ty : TypeId) (hfm : FormOk fo (.pointer (some ⟨g, 0, none⟩)) 140 Ty) (LB d : Nat) (hLB : LB ≤ 900) (hd : d + 1 ≤ 30) (ih : NTermOk g s fo (LB + 1) d) (L : List Int) (hL : L.length ≤ LB) (a c : Nat) (w : World) (hw : RW g s L w) (hcu : Cur g s a c fo w) (ha : a ≤ s.size) (hc : c < 400) :
  Calls Tryz.prog 140 #[.pointer (some ⟨g, 0, none⟩), .int .i64 ((31 - (d + 1) : Nat) : Int)] w (TmPost g s fo w (nct s (d + 1) L a c)) := by
 have hg := hcu.facts.1
 have HNO : Hid (∀ w', nct s (d + 1) L a c = none → Turn g w w' → TmPost g s fo w (nct s (d + 1) L a c) (.returned (.tuple #[.agg #[.int .i64 0, .int .i64 0, .slice none 0 0], .bool false])) w') := tuck fun w' h ht => TmPost.no h ht
 have HYES : Hid (∀ w' x v, nct s (d + 1) L a c = some x → Turn g w w' → Made w.heap.size x.1 v w' → Cur g s x.2.1 x.2.2 fo w' → TmPost g s fo w (nct s (d + 1) L a c) (.returned (.tuple #[v, .bool true])) w') := tuck fun w' x v h ht hm hc => TmPost.yes h ht hm hc
 generalize TmPost g s fo w (nct s (d + 1) L a c) = post at *
 have hct : nct s (d + 1) L a c = if ltr (byteAt s a) = true then (nVar L (byteAt s a)).map (fun (k : Nat) => (.mk 1 (k : Int) [], a + 1, c + 1)) else if byteAt s a = 40 then nctRound s (nct s d) L (a + 1) (c + 1) else if byteAt s a = 91 then nctFun s (nct s d) L (a + 1) (c + 1) else ctPlain s (nct s d L) (byteAt s a) (a + 1) (c + 1) := by rw [nct, if_neg (show ¬ 400 ≤ c by omega)]
 have HCT := tuck hct
 clear hct
 obtain ⟨D, hD⟩ : ∃ D, D = 31 - (d + 1) := ⟨_, rfl⟩
 have hD1 : D + 1 = 31 - d := by omega
 have hDl : D ≤ 30 := by omega
 rw [← hD]
 unfold NTermOk at ih
 rw [← hD1] at ih
 have HF : Hid (∀ L a c x, a ≤ s.size → c ≤ 400 → nct s d L a c = some x → x.2.1 ≤ s.size ∧ x.2.2 ≤ 400) := tuck fun L a c x h1 h2 h3 => nct_in h1 h2 h3
 generalize nct s d = f at *
 clear hD hD1
 have hb1 := below1 w (.cells #[.int .i64 0, .int .i64 0, .slice none 0 0] 25)
 have HB1 := tuck hb1
 have HV1 := tuck (VarAt.new w 0 0 (.slice none 0 0))
 have HW1 := tuck (RW.turn hg (Turn.of_below hb1) hw)
 have hz1 : w.heap.size < (w.alloc (.cells #[.int .i64 0, .int .i64 0, .slice none 0 0] 25)).heap.size := by simp
 have HE := tuck (rd_enter_yes g s a c fo D _ (hcu.below hb1) hc hDl)
 have HIH := tuck ih
 have HFM := tuck hfm
 have hq0 : (0 : Int) ≤ (byteAt s a : Int) := by omega
 have hq1 : (byteAt s a : Int) ≤ 255 := by have := byteAt_le s a; omega
 have HIS := tuck (fun w => isName_any (byteAt s a : Int) w hq0 hq1)
 clear hcu ih hfm hb1 hw hq0 hq1
 go_enter Tryz.func140, Tryz.ntmps140
 go_wp2_with fail
 generalize w.alloc (.cells #[.int .i64 0, .int .i64 0, .slice none 0 0] 25) = W0 at *
 refine HE.out.mono ?_
 rintro e w1 ⟨rfl, ht1, hc1⟩
 have HT1 := tuck ht1
 have HC1 := tuck hc1
 clear ht1 hc1 HE
 go_wp2_with fail
 refine (rd_next_any g s a (c + 1) fo w1 HC1.out ha hs).mono ?_
 rintro e w2 ⟨rfl, ht2, hc2⟩
 have HTA := tuck (HT1.out.trans ht2)
 have hgW : g < W0.heap.size := by have := HB1.out.size; omega
 have HV2 := tuck (HV1.out.only HTA.out.1 (by omega))
 have HW2 := tuck (RW.turn hgW HTA.out HW1.out)
 have HC2 := tuck hc2
 clear ht2 hc2 HT1 HC1 HV1 HW1
 cases hl : ltr (byteAt s a : Int) with
 | true =>
  have hlt := ltr_lt hl
  rw [if_pos hlt] at HC2
  rw [hl] at HIS
  have HO : Hid (nct s (d + 1) L a c = nvOut L (byteAt s a) (a + 1) (c + 1)) := tuck (by rw [HCT.out, if_pos hl]; rfl)
  have HCN : Hid (Calls Tryz.prog 142 #[.pointer (some ⟨g, 0, none⟩), .int .u8 (byteAt s a)] w2 (TmPost g s fo w2 (nvOut L (byteAt s a) (a + 1) (c + 1)))) := tuck (rd_variable g s L (by omega) (byteAt s a) (a + 1) (c + 1) fo w2 HW2.out HC2.out)
  have HVB := HV2
  have HTC := HTA
  clear hl HCT HW2 HC2
  generalize byteAt s a = b at *
  go_wp2_with fail
  refine (HIS.out _).mono ?_
  rintro e w3 ⟨rfl, hw3⟩
  have hw4 := hw3.symm
  subst hw4
  go_wp2_with fail
  refine HCN.out.mono ?_
  rintro e w4 ⟨ht5, hm5⟩
  have ht4 := HTC.out.trans ht5
  have hm4 : match nvOut L (b : Int) (a + 1) (c + 1) with
    | some x => ∃ v, e = .returned (.tuple #[v, .bool true]) ∧ Made W0.heap.size x.1 v w4 ∧ Cur g s x.2.1 x.2.2 fo w4
    | none => e = .returned (.tuple #[.agg #[.int .i64 0, .int .i64 0, .slice none 0 0], .bool false]) := by
   have hzz := HTC.out.size
   cases h : nvOut L (b : Int) (a + 1) (c + 1) with
   | none => rw [h] at hm5; exact hm5
   | some x => rw [h] at hm5; obtain ⟨v, h1, h2, h3⟩ := hm5; exact ⟨v, h1, h2.mono hzz, h3⟩
  have HBC := HB1
  have HZC := tuck hz1
  have HVC := tuck (HVB.out.only ht5.1 (by omega))
  clear ht5 hm5
  have HV4 := HVC
  obtain ⟨zv, v0, v1, v2, vf⟩ := HV4.out.facts
  clear HV4
  cases ho : nvOut L (b : Int) (a + 1) (c + 1) with
  | none =>
   rw [ho] at hm4
   obtain rfl := hm4
   have HT4 := tuck (stored_none HBC.out HZC.out hg ht4)
   have HO4 := tuck (HO.out.trans ho)
   clear ht4 ho
   go_wp2_with fail
   exact bodyPost_ret (v := .tuple #[.agg #[.int .i64 0, .int .i64 0, .slice none 0 0], .bool false]) (by simp [results, Tryz.results140, go_sem, *]) rfl (HNO.out _ HO4.out (HT4.out _ _ _))
  | some x =>
   rw [ho] at hm4
   obtain ⟨v, rfl, hmx, hcx⟩ := hm4
   have HS4 := tuck (stored_some HBC.out HZC.out hg ht4 hmx hcx)
   obtain ⟨sx, Fx, rfl, hox, -, -⟩ := hmx
   obtain ⟨sa, sc, rfl⟩ := hox.form
   have HO4 := tuck (HO.out.trans ho)
   clear ht4 ho hcx hox
   go_wp2_with fail
   exact bodyPost_ret (v := .tuple #[.agg #[.int .i64 x.1.kind, .int .i64 x.1.num, .slice sa x.1.kids.length sc], .bool true]) (by simp [results, Tryz.results140, go_sem, *]) rfl (HYES.out _ x _ HO4.out (HS4.out _ _ _).1 (HS4.out _ _ _).2.1 (HS4.out _ _ _).2.2)
 | false =>
  rw [hl] at HIS
  by_cases hb40 : byteAt s a = 40
  ·have hlt := byte_lt hb40 (by decide)
   rw [if_pos hlt] at HC2
   have HO : Hid (nct s (d + 1) L a c = nctRound s f L (a + 1) (c + 1)) := tuck (by rw [HCT.out, if_neg (by rw [hl]; simp), if_pos hb40])
   have HCN := tuck (rn_round LB hLB g s hs fo Ty HFM.out f D (by omega) HF.out HIH.out L hL (a + 1) (c + 1) w2 HW2.out HC2.out (by omega) (by omega))
   have HVB := HV2
   have HTC := HTA
   rw [hb40]
   rw [hb40] at HIS
   clear hl HCT HW2 HC2 hb40
   go_wp2_with fail
   refine (HIS.out _).mono ?_
   rintro e w3 ⟨rfl, hw3⟩
   have hw4 := hw3.symm
   subst hw4
   go_wp2_with fail
   refine HCN.out.mono ?_
   rintro e w4 ⟨ht5, hm5⟩
   have ht4 := HTC.out.trans ht5
   have hm4 : match nctRound s f L (a + 1) (c + 1) with
     | some x => ∃ v, e = .returned (.tuple #[v, .bool true]) ∧ Made W0.heap.size x.1 v w4 ∧ Cur g s x.2.1 x.2.2 fo w4
     | none => e = .returned (.tuple #[.agg #[.int .i64 0, .int .i64 0, .slice none 0 0], .bool false]) := by
    have hzz := HTC.out.size
    cases h : nctRound s f L (a + 1) (c + 1) with
    | none => rw [h] at hm5; exact hm5
    | some x => rw [h] at hm5; obtain ⟨v, h1, h2, h3⟩ := hm5; exact ⟨v, h1, h2.mono hzz, h3⟩
   have HBC := HB1
   have HZC := tuck hz1
   have HVC := tuck (HVB.out.only ht5.1 (by omega))
   clear ht5 hm5
   have HV4 := HVC
   obtain ⟨zv, v0, v1, v2, vf⟩ := HV4.out.facts
   clear HV4
   cases ho : nctRound s f L (a + 1) (c + 1) with
   | none =>
    rw [ho] at hm4
    obtain rfl := hm4
    have HT4 := tuck (stored_none HBC.out HZC.out hg ht4)
    have HO4 := tuck (HO.out.trans ho)
    clear ht4 ho
    go_wp2_with fail
    exact bodyPost_ret (v := .tuple #[.agg #[.int .i64 0, .int .i64 0, .slice none 0 0], .bool false]) (by simp [results, Tryz.results140, go_sem, *]) rfl (HNO.out _ HO4.out (HT4.out _ _ _))
   | some x =>
    rw [ho] at hm4
    obtain ⟨v, rfl, hmx, hcx⟩ := hm4
    have HS4 := tuck (stored_some HBC.out HZC.out hg ht4 hmx hcx)
    obtain ⟨sx, Fx, rfl, hox, -, -⟩ := hmx
    obtain ⟨sa, sc, rfl⟩ := hox.form
    have HO4 := tuck (HO.out.trans ho)
    clear ht4 ho hcx hox
    go_wp2_with fail
    exact bodyPost_ret (v := .tuple #[.agg #[.int .i64 x.1.kind, .int .i64 x.1.num, .slice sa x.1.kids.length sc], .bool true]) (by simp [results, Tryz.results140, go_sem, *]) rfl (HYES.out _ x _ HO4.out (HS4.out _ _ _).1 (HS4.out _ _ _).2.1 (HS4.out _ _ _).2.2)
  have e40 : ((byteAt s a : Int) == 40) = false := by simp; omega
  by_cases hb91 : byteAt s a = 91
  ·have hlt := byte_lt hb91 (by decide)
   rw [if_pos hlt] at HC2
   have HO : Hid (nct s (d + 1) L a c = nctFun s f L (a + 1) (c + 1)) := tuck (by rw [HCT.out, if_neg (by rw [hl]; simp), if_neg hb40, if_pos hb91])
   have HCN := tuck (rn_function LB hLB g s hs fo Ty HFM.out f D (by omega) HF.out HIH.out L hL (a + 1) (c + 1) w2 HW2.out HC2.out (by omega) (by omega))
   have HVB := HV2
   have HTC := HTA
   rw [hb91]
   rw [hb91] at HIS
   clear hl HCT HW2 HC2 hb40 hb91 e40
   go_wp2_with fail
   refine (HIS.out _).mono ?_
   rintro e w3 ⟨rfl, hw3⟩
   have hw4 := hw3.symm
   subst hw4
   go_wp2_with fail
   refine HCN.out.mono ?_
   rintro e w4 ⟨ht5, hm5⟩
   have ht4 := HTC.out.trans ht5
   have hm4 : match nctFun s f L (a + 1) (c + 1) with
     | some x => ∃ v, e = .returned (.tuple #[v, .bool true]) ∧ Made W0.heap.size x.1 v w4 ∧ Cur g s x.2.1 x.2.2 fo w4
     | none => e = .returned (.tuple #[.agg #[.int .i64 0, .int .i64 0, .slice none 0 0], .bool false]) := by
    have hzz := HTC.out.size
    cases h : nctFun s f L (a + 1) (c + 1) with
    | none => rw [h] at hm5; exact hm5
    | some x => rw [h] at hm5; obtain ⟨v, h1, h2, h3⟩ := hm5; exact ⟨v, h1, h2.mono hzz, h3⟩
   have HBC := HB1
   have HZC := tuck hz1
   have HVC := tuck (HVB.out.only ht5.1 (by omega))
   clear ht5 hm5
   have HV4 := HVC
   obtain ⟨zv, v0, v1, v2, vf⟩ := HV4.out.facts
   clear HV4
   cases ho : nctFun s f L (a + 1) (c + 1) with
   | none =>
    rw [ho] at hm4
    obtain rfl := hm4
    have HT4 := tuck (stored_none HBC.out HZC.out hg ht4)
    have HO4 := tuck (HO.out.trans ho)
    clear ht4 ho
    go_wp2_with fail
    exact bodyPost_ret (v := .tuple #[.agg #[.int .i64 0, .int .i64 0, .slice none 0 0], .bool false]) (by simp [results, Tryz.results140, go_sem, *]) rfl (HNO.out _ HO4.out (HT4.out _ _ _))
   | some x =>
    rw [ho] at hm4
    obtain ⟨v, rfl, hmx, hcx⟩ := hm4
    have HS4 := tuck (stored_some HBC.out HZC.out hg ht4 hmx hcx)
    obtain ⟨sx, Fx, rfl, hox, -, -⟩ := hmx
    obtain ⟨sa, sc, rfl⟩ := hox.form
    have HO4 := tuck (HO.out.trans ho)
    clear ht4 ho hcx hox
    go_wp2_with fail
    exact bodyPost_ret (v := .tuple #[.agg #[.int .i64 x.1.kind, .int .i64 x.1.num, .slice sa x.1.kids.length sc], .bool true]) (by simp [results, Tryz.results140, go_sem, *]) rfl (HYES.out _ x _ HO4.out (HS4.out _ _ _).1 (HS4.out _ _ _).2.1 (HS4.out _ _ _).2.2)
  have e91 : ((byteAt s a : Int) == 91) = false := by simp; omega
  have HO : Hid (nct s (d + 1) L a c = ctPlain s (f L) (byteAt s a) (if a < s.size then a + 1 else a) (c + 1)) := tuck (by
   rw [HCT.out, if_neg (by rw [hl]; simp), if_neg hb40, if_neg hb91]
   by_cases hlt : a < s.size
   ·rw [if_pos hlt]
   ·rw [byteAt_end (by omega), ctPlain_zero, ctPlain_zero])
  have hple : (if a < s.size then a + 1 else a) ≤ s.size := by split <;> omega
  generalize (if a < s.size then a + 1 else a) = a2 at *
  have HCN := tuck (rd_plain_any g s hs fo _ _ Ty HFM.out (RW g s L) (fun _ _ h1 h2 h3 => RW.turn h1 h2 h3) (f L) D (by omega) (HF.out L) (fun a c w h1 h2 h3 h4 => HIH.out L a c w (by omega) h1 h2 h3 h4) (byteAt s a) a2 (c + 1) w2 HW2.out HC2.out hple (by omega))
  have HVB := HV2
  have HTC := HTA
  clear hb91 hb40 HCT hl HW2 HC2
  generalize byteAt s a = b at *
  go_wp2_with fail
  refine (HIS.out _).mono ?_
  rintro e w3 ⟨rfl, hw3⟩
  have hw4 := hw3.symm
  subst hw4
  go_wp2_with fail
  refine HCN.out.mono ?_
  rintro e w4 ⟨ht5, hm5⟩
  have ht4 := HTC.out.trans ht5
  have hm4 : match ctPlain s (f L) b a2 (c + 1) with
    | some x => ∃ v, e = .returned (.tuple #[v, .bool true]) ∧ Made W0.heap.size x.1 v w4 ∧ Cur g s x.2.1 x.2.2 fo w4
    | none => e = .returned (.tuple #[.agg #[.int .i64 0, .int .i64 0, .slice none 0 0], .bool false]) := by
   have hzz := HTC.out.size
   cases h : ctPlain s (f L) b a2 (c + 1) with
   | none => rw [h] at hm5; exact hm5
   | some x => rw [h] at hm5; obtain ⟨v, h1, h2, h3⟩ := hm5; exact ⟨v, h1, h2.mono hzz, h3⟩
  have HBC := HB1
  have HZC := tuck hz1
  have HVC := tuck (HVB.out.only ht5.1 (by omega))
  clear ht5 hm5
  have HV4 := HVC
  obtain ⟨zv, v0, v1, v2, vf⟩ := HV4.out.facts
  clear HV4
  cases ho : ctPlain s (f L) b a2 (c + 1) with
  | none =>
   rw [ho] at hm4
   obtain rfl := hm4
   have HT4 := tuck (stored_none HBC.out HZC.out hg ht4)
   have HO4 := tuck (HO.out.trans ho)
   clear ht4 ho
   go_wp2_with fail
   exact bodyPost_ret (v := .tuple #[.agg #[.int .i64 0, .int .i64 0, .slice none 0 0], .bool false]) (by simp [results, Tryz.results140, go_sem, *]) rfl (HNO.out _ HO4.out (HT4.out _ _ _))
  | some x =>
   rw [ho] at hm4
   obtain ⟨v, rfl, hmx, hcx⟩ := hm4
   have HS4 := tuck (stored_some HBC.out HZC.out hg ht4 hmx hcx)
   obtain ⟨sx, Fx, rfl, hox, -, -⟩ := hmx
   obtain ⟨sa, sc, rfl⟩ := hox.form
   have HO4 := tuck (HO.out.trans ho)
   clear ht4 ho hcx hox
   go_wp2_with fail
   exact bodyPost_ret (v := .tuple #[.agg #[.int .i64 x.1.kind, .int .i64 x.1.num, .slice sa x.1.kids.length sc], .bool true]) (by simp [results, Tryz.results140, go_sem, *]) rfl (HYES.out _ x _ HO4.out (HS4.out _ _ _).1 (HS4.out _ _ _).2.1 (HS4.out _ _ _).2.2)
theorem nterm_ok (g : Nat) (s : ByteArray) (hs : s.size ≤ 1152921504606846976) (fo : Value) (Ty : TypeId) (hfm : FormOk fo (.pointer (some ⟨g, 0, none⟩)) 140 Ty) : ∀ d LB, d ≤ 30 → LB + d ≤ 900 → NTermOk g s fo LB d
 | 0, LB, _, _ => fun L a c w hL hw hcu ha hc => nterm_no g s fo 0 31 L a c w hcu hc (by decide) (Or.inr (by decide)) rfl
 | d + 1, LB, hd, hB => fun L a c w hL hw hcu ha hc => by
  by_cases h4 : c = 400
  ·exact nterm_no g s fo (d + 1) (31 - (d + 1)) L a c w hcu hc (by omega) (Or.inl h4) (nct_full s (d + 1) L a c (by omega))
  ·exact nterm_succ g s hs fo Ty hfm LB d (by omega) hd (nterm_ok g s hs fo Ty hfm d (LB + 1) (by omega) (by omega)) L hL a c w hw hcu ha (by omega)
end Go.Proofs.YtjdmfegdgpbkgaaGreat
