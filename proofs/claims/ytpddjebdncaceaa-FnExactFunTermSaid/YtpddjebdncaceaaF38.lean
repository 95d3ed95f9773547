/-
  CurF.
-/
import Derived.Test.YtpddjebdncaceaaF37
namespace Go.Proofs.Ytpddjebdncaceaa
open Go.RowKit
set_option linter.unusedVariables false
theorem ct_in {s : ByteArray} {d a c : Nat} {x : Tm × Nat × Nat} (ha : a ≤ s.size) (hc : c ≤ 400) (h : ct s d a c = some x) : x.2.1 ≤ s.size ∧ x.2.2 ≤ 400 := by
 obtain ⟨h1, h2, h3, h4, h5⟩ := sound_ct s d a c x h
 exact ⟨pt_le s d a _ h1, h4 hc⟩
theorem ct_full (s : ByteArray) (d a c : Nat) (h : 400 ≤ c) : ct s d a c = none := by
 cases d with
 | zero => rfl
 | succ d => rw [ct, if_pos h]
theorem ctPlain_zero (s : ByteArray) (f : Nat → Nat → Option (Tm × Nat × Nat)) (a c : Nat) : ctPlain s f 0 a c = none := rfl
def CTermOk (g : Nat) (s : ByteArray) (fo : Value) (d : Nat) : Prop := ∀ (a c : Nat) (w : World), Cur g s a c fo w → a ≤ s.size → c ≤ 400 → Calls Try.prog 65 #[.pointer (some ⟨g, 0, none⟩), .int .i64 ((31 - d : Nat) : Int)] w (TmPost g s fo w (ct s d a c))
set_option maxRecDepth 100000 in
set_option maxHeartbeats 1000000 in
theorem rd_cterm_no (g : Nat) (s : ByteArray) (fo : Value) (d D a c : Nat) (w : World) (hcu : Cur g s a c fo w) (hc : c ≤ 400) (hD : D ≤ 1000) (hno : c = 400 ∨ 30 < D) (hct : ct s d a c = none) : Calls Try.prog 65 #[.pointer (some ⟨g, 0, none⟩), .int .i64 D] w (TmPost g s fo w (ct s d a c)) := by
 have hg := hcu.facts.1
 have HNO := tuck (fun w' ht => TmPost.no (g := g) (s := s) (fo := fo) (w := w) (w' := w') hct ht)
 generalize TmPost g s fo w (ct s d a c) = post at *
 have HE := tuck (rd_enter_no g s a c fo D _ (hcu.below (below1 w (.cells #[.int .i64 0, .int .i64 0, .slice none 0 0] 24))) hc hD hno)
 clear hcu hno hct
 go_enter Try.func65, Try.ntmps65
 go_wp2_with fail
 refine HE.out.mono ?_
 rintro e w1 ⟨rfl, hw1⟩
 subst hw1
 go_wp2_with fail
 exact bodyPost_ret (v := .tuple #[.agg #[.int .i64 0, .int .i64 0, .slice none 0 0], .bool false]) (by simp [results, Try.results65, go_sem, *]) rfl (HNO.out _ (Turn.of_below (below1 w _)))
set_option maxRecDepth 100000 in
set_option maxHeartbeats 4000000 in
theorem rd_cterm_succ (g : Nat) (s : ByteArray) (hs : s.size ≤ 1152921504606846976) (fo : Value) (T : TypeId) (hfm : FormOk fo (.pointer (some ⟨g, 0, none⟩)) 65 T) (d : Nat) (hd : d + 1 ≤ 30) (ih : CTermOk g s fo d) (a c : Nat) (w : World) (hcu : Cur g s a c fo w) (ha : a ≤ s.size) (hc : c < 400) :
  Calls Try.prog 65 #[.pointer (some ⟨g, 0, none⟩), .int .i64 ((31 - (d + 1) : Nat) : Int)] w (TmPost g s fo w (ct s (d + 1) a c)) := by
 have hg := hcu.facts.1
 have HNO : Hid (∀ w', ct s (d + 1) a c = none → Turn g w w' → TmPost g s fo w (ct s (d + 1) a c) (.returned (.tuple #[.agg #[.int .i64 0, .int .i64 0, .slice none 0 0], .bool false])) w') := tuck fun w' h ht => TmPost.no h ht
 have HYES : Hid (∀ w' x v, ct s (d + 1) a c = some x → Turn g w w' → Made w.heap.size x.1 v w' → Cur g s x.2.1 x.2.2 fo w' → TmPost g s fo w (ct s (d + 1) a c) (.returned (.tuple #[v, .bool true])) w') := tuck fun w' x v h ht hm hc => TmPost.yes h ht hm hc
 generalize TmPost g s fo w (ct s (d + 1) a c) = post at *
 have hct : ct s (d + 1) a c = if byteAt s a = 35 then ctNum s 1 20 (a + 1) (c + 1) else if byteAt s a = 40 then ctRound s (ct s d) (a + 1) (c + 1) else if byteAt s a = 91 then ctNode s (ct s d) 4 [93, 0] (a + 1) (c + 1) else ctPlain s (ct s d) (byteAt s a) (a + 1) (c + 1) := by rw [ct, if_neg (show ¬ 400 ≤ c by omega)]
 have HCT := tuck hct
 clear hct
 obtain ⟨D, hD⟩ : ∃ D, D = 31 - (d + 1) := ⟨_, rfl⟩
 have hD1 : D + 1 = 31 - d := by omega
 have hDl : D ≤ 30 := by omega
 rw [← hD]
 unfold CTermOk at ih
 rw [← hD1] at ih
 have HF : Hid (∀ a c x, a ≤ s.size → c ≤ 400 → ct s d a c = some x → x.2.1 ≤ s.size ∧ x.2.2 ≤ 400) := tuck fun a c x h1 h2 h3 => ct_in h1 h2 h3
 generalize ct s d = f at *
 clear hD hD1
 have HB1 := tuck (below1 w (.cells #[.int .i64 0, .int .i64 0, .slice none 0 0] 24))
 have HV1 := tuck (VarAt.new w 0 0 (.slice none 0 0))
 have hz1 : w.heap.size < (w.alloc (.cells #[.int .i64 0, .int .i64 0, .slice none 0 0] 24)).heap.size := by simp
 have HE := tuck (rd_enter_yes g s a c fo D _ (hcu.below (below1 w (.cells #[.int .i64 0, .int .i64 0, .slice none 0 0] 24))) hc hDl)
 have HIH := tuck ih
 have HFM := tuck hfm
 clear hcu ih hfm
 go_enter Try.func65, Try.ntmps65
 go_wp2_with fail
 generalize w.alloc (.cells #[.int .i64 0, .int .i64 0, .slice none 0 0] 24) = W0 at *
 refine HE.out.mono ?_
 rintro e w1 ⟨rfl, ht1, hc1⟩
 have HT1 := tuck ht1
 have HC1 := tuck hc1
 clear ht1 hc1 HE
 go_wp2_with fail
 refine (rd_next_any g s a (c + 1) fo w1 HC1.out ha hs).mono ?_
 rintro e w2 ⟨rfl, ht2, hc2⟩
 have HTA := tuck (HT1.out.trans ht2)
 have hgW : g < W0.heap.size := by have := HB1.out.size; omega
 have HV2 := tuck (HV1.out.only HTA.out.1 (by omega))
 have HC2 := tuck hc2
 clear ht2 hc2 HT1 HC1 HV1
 by_cases hb35 : byteAt s a = 35
 ·have hlt := byte_lt hb35 (by decide)
  rw [if_pos hlt] at HC2
  have HO : Hid (ct s (d + 1) a c = ctNum s 1 20 (a + 1) (c + 1)) := tuck (by rw [HCT.out, if_pos hb35])
  have HCN := tuck (rd_numbered_tm g s 1 (a + 1) (c + 1) 20 fo w2 HC2.out (by omega) hs (by decide))
  have HVB := HV2
  have HTC := HTA
  rw [hb35]
  clear hb35 HCT
  go_wp2_with fail
  refine HCN.out.mono ?_
  rintro e w4 ⟨ht5, hm5⟩
  have ht4 := HTC.out.trans ht5
  have hm4 : match ctNum s 1 20 (a + 1) (c + 1) with
    | some x => ∃ v, e = .returned (.tuple #[v, .bool true]) ∧ Made W0.heap.size x.1 v w4 ∧ Cur g s x.2.1 x.2.2 fo w4
    | none => e = .returned (.tuple #[.agg #[.int .i64 0, .int .i64 0, .slice none 0 0], .bool false]) := by
   have hzz := HTC.out.size
   cases h : ctNum s 1 20 (a + 1) (c + 1) with
   | none => rw [h] at hm5; exact hm5
   | some x => rw [h] at hm5; obtain ⟨v, h1, h2, h3⟩ := hm5; exact ⟨v, h1, h2.mono hzz, h3⟩
  have HBC := HB1
  have HZC := tuck hz1
  have HVC := tuck (HVB.out.only ht5.1 (by omega))
  clear ht5 hm5
  have HV4 := HVC
  obtain ⟨zv, v0, v1, v2, vf⟩ := HV4.out.facts
  clear HV4
  cases ho : ctNum s 1 20 (a + 1) (c + 1) with
  | none =>
   rw [ho] at hm4
   obtain rfl := hm4
   have HT4 := tuck (stored_none HBC.out HZC.out hg ht4)
   have HO4 := tuck (HO.out.trans ho)
   clear ht4 ho
   go_wp2_with fail
   exact bodyPost_ret (v := .tuple #[.agg #[.int .i64 0, .int .i64 0, .slice none 0 0], .bool false]) (by simp [results, Try.results65, go_sem, *]) rfl (HNO.out _ HO4.out (HT4.out _ _ _))
  | some x =>
   rw [ho] at hm4
   obtain ⟨v, rfl, hmx, hcx⟩ := hm4
   have HS4 := tuck (stored_some HBC.out HZC.out hg ht4 hmx hcx)
   obtain ⟨sx, Fx, rfl, hox, -, -⟩ := hmx
   obtain ⟨sa, sc, rfl⟩ := hox.form
   have HO4 := tuck (HO.out.trans ho)
   clear ht4 ho hcx hox
   go_wp2_with fail
   exact bodyPost_ret (v := .tuple #[.agg #[.int .i64 x.1.kind, .int .i64 x.1.num, .slice sa x.1.kids.length sc], .bool true]) (by simp [results, Try.results65, go_sem, *]) rfl (HYES.out _ x _ HO4.out (HS4.out _ _ _).1 (HS4.out _ _ _).2.1 (HS4.out _ _ _).2.2)
 have e35 : ((byteAt s a : Int) == 35) = false := by simp; omega
 by_cases hb40 : byteAt s a = 40
 ·have hlt := byte_lt hb40 (by decide)
  rw [if_pos hlt] at HC2
  have HO : Hid (ct s (d + 1) a c = ctRound s f (a + 1) (c + 1)) := tuck (by rw [HCT.out, if_neg hb35, if_pos hb40])
  have HCN := tuck (rdRound_any g s hs fo f D (by omega) HF.out HIH.out (a + 1) (c + 1) w2 HC2.out (by omega) (by omega))
  have HVB := HV2
  have HTC := HTA
  rw [hb40]
  clear hb40 hb35 HCT e35
  go_wp2_with fail
  refine HCN.out.mono ?_
  rintro e w4 ⟨ht5, hm5⟩
  have ht4 := HTC.out.trans ht5
  have hm4 : match ctRound s f (a + 1) (c + 1) with
    | some x => ∃ v, e = .returned (.tuple #[v, .bool true]) ∧ Made W0.heap.size x.1 v w4 ∧ Cur g s x.2.1 x.2.2 fo w4
    | none => e = .returned (.tuple #[.agg #[.int .i64 0, .int .i64 0, .slice none 0 0], .bool false]) := by
   have hzz := HTC.out.size
   cases h : ctRound s f (a + 1) (c + 1) with
   | none => rw [h] at hm5; exact hm5
   | some x => rw [h] at hm5; obtain ⟨v, h1, h2, h3⟩ := hm5; exact ⟨v, h1, h2.mono hzz, h3⟩
  have HBC := HB1
  have HZC := tuck hz1
  have HVC := tuck (HVB.out.only ht5.1 (by omega))
  clear ht5 hm5
  have HV4 := HVC
  obtain ⟨zv, v0, v1, v2, vf⟩ := HV4.out.facts
  clear HV4
  cases ho : ctRound s f (a + 1) (c + 1) with
  | none =>
   rw [ho] at hm4
   obtain rfl := hm4
   have HT4 := tuck (stored_none HBC.out HZC.out hg ht4)
   have HO4 := tuck (HO.out.trans ho)
   clear ht4 ho
   go_wp2_with fail
   exact bodyPost_ret (v := .tuple #[.agg #[.int .i64 0, .int .i64 0, .slice none 0 0], .bool false]) (by simp [results, Try.results65, go_sem, *]) rfl (HNO.out _ HO4.out (HT4.out _ _ _))
  | some x =>
   rw [ho] at hm4
   obtain ⟨v, rfl, hmx, hcx⟩ := hm4
   have HS4 := tuck (stored_some HBC.out HZC.out hg ht4 hmx hcx)
   obtain ⟨sx, Fx, rfl, hox, -, -⟩ := hmx
   obtain ⟨sa, sc, rfl⟩ := hox.form
   have HO4 := tuck (HO.out.trans ho)
   clear ht4 ho hcx hox
   go_wp2_with fail
   exact bodyPost_ret (v := .tuple #[.agg #[.int .i64 x.1.kind, .int .i64 x.1.num, .slice sa x.1.kids.length sc], .bool true]) (by simp [results, Try.results65, go_sem, *]) rfl (HYES.out _ x _ HO4.out (HS4.out _ _ _).1 (HS4.out _ _ _).2.1 (HS4.out _ _ _).2.2)
 have e40 : ((byteAt s a : Int) == 40) = false := by simp; omega
 by_cases hb91 : byteAt s a = 91
 ·have hlt := byte_lt hb91 (by decide)
  rw [if_pos hlt] at HC2
  have HO : Hid (ct s (d + 1) a c = ctNode s f 4 [93, 0] (a + 1) (c + 1)) := tuck (by rw [HCT.out, if_neg hb35, if_neg hb40, if_pos hb91])
  have hbs := below1 w2 (.cells #[.string (ByteArray.mk #[93]), .string (ByteArray.mk #[])] 9)
  have HCN := tuck (rdNode_m g s hs fo _ _ T HFM.out (fun _ => True) (fun _ _ _ _ _ => trivial) f D (by omega) HF.out (fun a c w _ h1 h2 h3 => HIH.out a c w h1 h2 h3) 4 [93, 0] 2 rfl (by decide) (by decide) w2.heap.size 2 (a + 1) (c + 1) (w2.alloc (.cells #[.string (ByteArray.mk #[93]), .string (ByteArray.mk #[])] 9)) trivial (HC2.out.below hbs) (by omega) (by omega) (fun i hi => by
  have hcs : i = 0 ∨ i = 1 := by simp at hi; omega
  rcases hcs with rfl | rfl
  ·exact ⟨_, by rw [World.cell?_alloc_new]; rfl, Or.inr ⟨(by decide : 0 < 93), (by decide : 93 < 256), rfl⟩⟩
  ·exact ⟨_, by rw [World.cell?_alloc_new]; rfl, Or.inl ⟨rfl, rfl⟩⟩) (by have := HTA.out.size; omega))
  have HVB := tuck (HV2.out.below hbs)
  have HTC := tuck (HTA.out.below hbs)
  rw [hb91]
  clear hb91 hb40 hb35 HCT e35 e40 hbs
  go_wp2_with fail
  generalize w2.alloc (.cells #[.string (ByteArray.mk #[93]), .string (ByteArray.mk #[])] 9) = WC at *
  refine HCN.out.mono ?_
  rintro e w4 ⟨ht5, hm5⟩
  have ht4 := HTC.out.trans ht5
  have hm4 : match ctNode s f 4 [93, 0] (a + 1) (c + 1) with
    | some x => ∃ v, e = .returned (.tuple #[v, .bool true]) ∧ Made W0.heap.size x.1 v w4 ∧ Cur g s x.2.1 x.2.2 fo w4
    | none => e = .returned (.tuple #[.agg #[.int .i64 0, .int .i64 0, .slice none 0 0], .bool false]) := by
   have hzz := HTC.out.size
   cases h : ctNode s f 4 [93, 0] (a + 1) (c + 1) with
   | none => rw [h] at hm5; exact hm5
   | some x => rw [h] at hm5; obtain ⟨v, h1, h2, h3⟩ := hm5; exact ⟨v, h1, h2.mono hzz, h3⟩
  have HBC := HB1
  have HZC := tuck hz1
  have HVC := tuck (HVB.out.only ht5.1 (by omega))
  clear ht5 hm5
  have HV4 := HVC
  obtain ⟨zv, v0, v1, v2, vf⟩ := HV4.out.facts
  clear HV4
  cases ho : ctNode s f 4 [93, 0] (a + 1) (c + 1) with
  | none =>
   rw [ho] at hm4
   obtain rfl := hm4
   have HT4 := tuck (stored_none HBC.out HZC.out hg ht4)
   have HO4 := tuck (HO.out.trans ho)
   clear ht4 ho
   go_wp2_with fail
   exact bodyPost_ret (v := .tuple #[.agg #[.int .i64 0, .int .i64 0, .slice none 0 0], .bool false]) (by simp [results, Try.results65, go_sem, *]) rfl (HNO.out _ HO4.out (HT4.out _ _ _))
  | some x =>
   rw [ho] at hm4
   obtain ⟨v, rfl, hmx, hcx⟩ := hm4
   have HS4 := tuck (stored_some HBC.out HZC.out hg ht4 hmx hcx)
   obtain ⟨sx, Fx, rfl, hox, -, -⟩ := hmx
   obtain ⟨sa, sc, rfl⟩ := hox.form
   have HO4 := tuck (HO.out.trans ho)
   clear ht4 ho hcx hox
   go_wp2_with fail
   exact bodyPost_ret (v := .tuple #[.agg #[.int .i64 x.1.kind, .int .i64 x.1.num, .slice sa x.1.kids.length sc], .bool true]) (by simp [results, Try.results65, go_sem, *]) rfl (HYES.out _ x _ HO4.out (HS4.out _ _ _).1 (HS4.out _ _ _).2.1 (HS4.out _ _ _).2.2)
 have e91 : ((byteAt s a : Int) == 91) = false := by simp; omega
 have HO : Hid (ct s (d + 1) a c = ctPlain s f (byteAt s a) (if a < s.size then a + 1 else a) (c + 1)) := tuck (by
  rw [HCT.out, if_neg hb35, if_neg hb40, if_neg hb91]
  by_cases hlt : a < s.size
  ·rw [if_pos hlt]
  ·rw [byteAt_end (by omega), ctPlain_zero, ctPlain_zero])
 have hple : (if a < s.size then a + 1 else a) ≤ s.size := by split <;> omega
 generalize (if a < s.size then a + 1 else a) = a2 at *
 have HCN := tuck (rd_plain_any g s hs fo _ _ T HFM.out (fun _ => True) (fun _ _ _ _ _ => trivial) f D (by omega) HF.out (fun a c w _ h1 h2 h3 => HIH.out a c w h1 h2 h3) (byteAt s a) a2 (c + 1) w2 trivial HC2.out hple (by omega))
 have HVB := HV2
 have HTC := HTA
 clear hb91 hb40 hb35 HCT
 generalize byteAt s a = b at *
 go_wp2_with fail
 refine HCN.out.mono ?_
 rintro e w4 ⟨ht5, hm5⟩
 have ht4 := HTC.out.trans ht5
 have hm4 : match ctPlain s f b a2 (c + 1) with
   | some x => ∃ v, e = .returned (.tuple #[v, .bool true]) ∧ Made W0.heap.size x.1 v w4 ∧ Cur g s x.2.1 x.2.2 fo w4
   | none => e = .returned (.tuple #[.agg #[.int .i64 0, .int .i64 0, .slice none 0 0], .bool false]) := by
  have hzz := HTC.out.size
  cases h : ctPlain s f b a2 (c + 1) with
  | none => rw [h] at hm5; exact hm5
  | some x => rw [h] at hm5; obtain ⟨v, h1, h2, h3⟩ := hm5; exact ⟨v, h1, h2.mono hzz, h3⟩
 have HBC := HB1
 have HZC := tuck hz1
 have HVC := tuck (HVB.out.only ht5.1 (by omega))
 clear ht5 hm5
 have HV4 := HVC
 obtain ⟨zv, v0, v1, v2, vf⟩ := HV4.out.facts
 clear HV4
 cases ho : ctPlain s f b a2 (c + 1) with
 | none =>
  rw [ho] at hm4
  obtain rfl := hm4
  have HT4 := tuck (stored_none HBC.out HZC.out hg ht4)
  have HO4 := tuck (HO.out.trans ho)
  clear ht4 ho
  go_wp2_with fail
  exact bodyPost_ret (v := .tuple #[.agg #[.int .i64 0, .int .i64 0, .slice none 0 0], .bool false]) (by simp [results, Try.results65, go_sem, *]) rfl (HNO.out _ HO4.out (HT4.out _ _ _))
 | some x =>
  rw [ho] at hm4
  obtain ⟨v, rfl, hmx, hcx⟩ := hm4
  have HS4 := tuck (stored_some HBC.out HZC.out hg ht4 hmx hcx)
  obtain ⟨sx, Fx, rfl, hox, -, -⟩ := hmx
  obtain ⟨sa, sc, rfl⟩ := hox.form
  have HO4 := tuck (HO.out.trans ho)
  clear ht4 ho hcx hox
  go_wp2_with fail
  exact bodyPost_ret (v := .tuple #[.agg #[.int .i64 x.1.kind, .int .i64 x.1.num, .slice sa x.1.kids.length sc], .bool true]) (by simp [results, Try.results65, go_sem, *]) rfl (HYES.out _ x _ HO4.out (HS4.out _ _ _).1 (HS4.out _ _ _).2.1 (HS4.out _ _ _).2.2)
theorem rd_cterm_ok (g : Nat) (s : ByteArray) (hs : s.size ≤ 1152921504606846976) (fo : Value) (T : TypeId) (hfm : FormOk fo (.pointer (some ⟨g, 0, none⟩)) 65 T) : ∀ d, d ≤ 30 → CTermOk g s fo d
 | 0, _ => fun a c w hcu ha hc => rd_cterm_no g s fo 0 31 a c w hcu hc (by decide) (Or.inr (by decide)) rfl
 | d + 1, hd => fun a c w hcu ha hc => by
  by_cases h4 : c = 400
  ·exact rd_cterm_no g s fo (d + 1) (31 - (d + 1)) a c w hcu hc (by omega) (Or.inl h4) (ct_full s (d + 1) a c (by omega))
  ·exact rd_cterm_succ g s hs fo T hfm d hd (rd_cterm_ok g s hs fo T hfm d (by omega)) a c w hcu ha (by omega)
end Go.Proofs.Ytpddjebdncaceaa
