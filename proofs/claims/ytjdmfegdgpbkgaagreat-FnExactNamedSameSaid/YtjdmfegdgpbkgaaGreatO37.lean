/-
  NmC.
-/
import Derived.Test.YtjdmfegdgpbkgaaGreatO36
namespace Go.Proofs.YtjdmfegdgpbkgaaGreat
open Go.RowKit
set_option linter.unusedVariables false
theorem bind_round (b : Nat) : bindKind b = if roundKind b = 5 then 0 else roundKind b := by
 unfold bindKind roundKind
 by_cases h1 : b = 62
 ·subst h1; decide
 by_cases h2 : b = 42
 ·subst h2; decide
 by_cases h3 : b = 32
 ·subst h3; decide
 ·simp [h1, h2, h3]
set_option maxRecDepth 100000 in
set_option maxHeartbeats 4000000 in
theorem rn_round (LB : Nat) (hLB : LB ≤ 900) (g : Nat) (s : ByteArray) (hs : s.size ≤ 1152921504606846976) (fo : Value) (Ty : TypeId) (hfm : FormOk fo (.pointer (some ⟨g, 0, none⟩)) 140 Ty) (f : List Int → Nat → Nat → Option (Tm × Nat × Nat)) (D : Nat) (hD : D ≤ 1000) (hf : ∀ L a c x, a ≤ s.size → c ≤ 400 → f L a c = some x → x.2.1 ≤ s.size ∧ x.2.2 ≤ 400)
  (HT : ∀ (L : List Int) (a c : Nat) (w : World), L.length ≤ LB + 1 → RW g s L w → Cur g s a c fo w → a ≤ s.size → c ≤ 400 → Calls Tryz.prog 140 #[.pointer (some ⟨g, 0, none⟩), .int .i64 ((D + 1 : Nat) : Int)] w (TmPost g s fo w (f L a c)))
  (L : List Int) (hL : L.length ≤ LB) (a c : Nat) (w : World) (hw : RW g s L w) (hcu : Cur g s a c fo w) (ha : a ≤ s.size) (hc : c ≤ 400) :
  Calls Tryz.prog 143 #[.pointer (some ⟨g, 0, none⟩), .int .i64 D] w (TmPost g s fo w (nctRound s f L a c)) := by
 have hg := hcu.facts.1
 have HNO : Hid (∀ w', nctRound s f L a c = none → Turn g w w' → TmPost g s fo w (nctRound s f L a c) (.returned (.tuple #[.agg #[.int .i64 0, .int .i64 0, .slice none 0 0], .bool false])) w') := tuck fun w' h ht => TmPost.no h ht
 have HYES : Hid (∀ w' x v, nctRound s f L a c = some x → Turn g w w' → Made w.heap.size x.1 v w' → Cur g s x.2.1 x.2.2 fo w' → TmPost g s fo w (nctRound s f L a c) (.returned (.tuple #[v, .bool true])) w') := tuck fun w' x v h ht hm hc => TmPost.yes h ht hm hc
 generalize TmPost g s fo w (nctRound s f L a c) = post at *
 have HTN : Hid (∀ (L : List Int) (a c : Nat) (w : World), L.length ≤ LB + 1 → RW g s L w → Cur g s a c fo w → a ≤ s.size → c ≤ 400 → Calls Tryz.prog 140 #[.pointer (some ⟨g, 0, none⟩), .int .i64 ((D : Int) + 1)] w (TmPost g s fo w (f L a c))) := tuck (by rw [show ((D + 1 : Nat) : Int) = (D : Int) + 1 by omega] at HT; exact HT)
 have HTT := tuck HT
 have HF := tuck hf
 have HFM := tuck hfm
 have hb1 := below1 w (.cells #[.int .i64 0, .int .i64 0, .slice none 0 0] 25)
 have HB1 := tuck hb1
 have HV1 := tuck (VarAt.new w 0 0 (.slice none 0 0))
 have HC1 := tuck (hcu.below hb1)
 have HW1 := tuck (RW.turn hg (Turn.of_below hb1) hw)
 have hz1 : w.heap.size < (w.alloc (.cells #[.int .i64 0, .int .i64 0, .slice none 0 0] 25)).heap.size := by simp
 clear hcu hw HT hf hfm hb1
 go_enter Tryz.func143, Tryz.ntmps143
 go_wp2_with fail
 generalize w.alloc (.cells #[.int .i64 0, .int .i64 0, .slice none 0 0] 25) = W0 at *
 have hg0 : g < W0.heap.size := by omega
 refine (rd_binderName g s hs a c fo W0 HC1.out ha).mono ?_
 rintro e w1 ⟨ht1, rfl, hc1⟩
 have HT1 := tuck ht1
 have HC2 := tuck hc1
 have HV2 := tuck (HV1.out.only ht1.1 (by omega))
 have HW2 := tuck (RW.turn hg0 ht1 HW1.out)
 clear ht1 hc1 HV1 HC1 HW1
 cases hco : colon s a with
 | false =>
  rw [hco] at HC2
  rw [if_neg (by simp)] at HC2
  have HO : Hid (nctRound s f L a c = ctNode s (f L) 5 [32, 41] a c) := tuck (by unfold nctRound; rw [if_neg (by rw [hco]; simp)])
  have hbs := below1 w1 (.cells #[.string (ByteArray.mk #[32]), .string (ByteArray.mk #[41])] 9)
  have hg1 : g < w1.heap.size := by have := HT1.out.size; omega
  have HCN := tuck (rdNode_m g s hs fo _ _ Ty HFM.out (RW g s L) (fun _ _ h1 h2 h3 => RW.turn h1 h2 h3) (f L) D hD (HF.out L) (fun a c w h1 h2 h3 h4 => HTT.out L a c w (by omega) h1 h2 h3 h4) 5 [32, 41] 2 rfl (by decide) (by decide) w1.heap.size 2 a c (w1.alloc (.cells #[.string (ByteArray.mk #[32]), .string (ByteArray.mk #[41])] 9)) (RW.turn hg1 (Turn.of_below hbs) HW2.out) (HC2.out.below hbs) (by omega) (by omega) (fun i hi => by
  have hcs : i = 0 ∨ i = 1 := by simp at hi; omega
  rcases hcs with rfl | rfl
  ·exact ⟨_, by rw [World.cell?_alloc_new]; rfl, Or.inr ⟨(by decide : 0 < 32), (by decide : 32 < 256), rfl⟩⟩
  ·exact ⟨_, by rw [World.cell?_alloc_new]; rfl, Or.inr ⟨(by decide : 0 < 41), (by decide : 41 < 256), rfl⟩⟩) (by omega))
  have HVB := tuck (HV2.out.below hbs)
  have HTC := tuck (HT1.out.below hbs)
  clear hbs hco HW2 HC2 HV2
  go_wp2_with fail
  generalize w1.alloc (.cells #[.string (ByteArray.mk #[32]), .string (ByteArray.mk #[41])] 9) = WC at *
  refine HCN.out.mono ?_
  rintro e w4 ⟨ht5, hm5⟩
  have ht4 := HTC.out.trans ht5
  have hm4 : match ctNode s (f L) 5 [32, 41] a c with
    | some x => ∃ v, e = .returned (.tuple #[v, .bool true]) ∧ Made W0.heap.size x.1 v w4 ∧ Cur g s x.2.1 x.2.2 fo w4
    | none => e = .returned (.tuple #[.agg #[.int .i64 0, .int .i64 0, .slice none 0 0], .bool false]) := by
   have hzz := HTC.out.size
   cases h : ctNode s (f L) 5 [32, 41] a c with
   | none => rw [h] at hm5; exact hm5
   | some x => rw [h] at hm5; obtain ⟨v, h1, h2, h3⟩ := hm5; exact ⟨v, h1, h2.mono hzz, h3⟩
  have HBC := HB1
  have HZC := tuck hz1
  have HVC := tuck (HVB.out.only ht5.1 (by omega))
  clear ht5 hm5
  have HV4 := HVC
  obtain ⟨zv, v0, v1, v2, vf⟩ := HV4.out.facts
  clear HV4
  cases ho : ctNode s (f L) 5 [32, 41] a c with
  | none =>
   rw [ho] at hm4
   obtain rfl := hm4
   have HT4 := tuck (stored_none HBC.out HZC.out hg ht4)
   have HO4 := tuck (HO.out.trans ho)
   clear ht4 ho
   go_wp2_with fail
   exact bodyPost_ret (v := .tuple #[.agg #[.int .i64 0, .int .i64 0, .slice none 0 0], .bool false]) (by simp [results, Tryz.results143, go_sem, *]) rfl (HNO.out _ HO4.out (HT4.out _ _ _))
  | some x =>
   rw [ho] at hm4
   obtain ⟨v, rfl, hmx, hcx⟩ := hm4
   have HS4 := tuck (stored_some HBC.out HZC.out hg ht4 hmx hcx)
   obtain ⟨sx, Fx, rfl, hox, -, -⟩ := hmx
   obtain ⟨sa, sc, rfl⟩ := hox.form
   have HO4 := tuck (HO.out.trans ho)
   clear ht4 ho hcx hox
   go_wp2_with fail
   exact bodyPost_ret (v := .tuple #[.agg #[.int .i64 x.1.kind, .int .i64 x.1.num, .slice sa x.1.kids.length sc], .bool true]) (by simp [results, Tryz.results143, go_sem, *]) rfl (HYES.out _ x _ HO4.out (HS4.out _ _ _).1 (HS4.out _ _ _).2.1 (HS4.out _ _ _).2.2)
 | true =>
  rw [hco] at HC2
  rw [if_pos rfl] at HC2
  rw [if_pos rfl]
  go_wp2_with fail
  refine (HTN.out L (a + 2) c w1 (by omega) HW2.out HC2.out (by have := colon_lt hco; omega) hc).mono ?_
  rintro e w2 ⟨ht2, hm2⟩
  have HT2 := tuck (HT1.out.trans ht2)
  have HV3 := tuck (HV2.out.only ht2.1 (by omega))
  have HW3 := tuck (RW.turn (by have := HT1.out.size; omega) ht2 HW2.out)
  have HZ1 : Hid (W0.heap.size ≤ w1.heap.size) := tuck HT1.out.size
  have HZ2 : Hid (w1.heap.size ≤ w2.heap.size) := tuck ht2.size
  clear ht2 HC2 HV2 HW2
  cases hfx : f L (a + 2) c with
  | none =>
   rw [hfx] at hm2
   obtain rfl := hm2
   have HO : Hid (nctRound s f L a c = none) := tuck (by unfold nctRound; rw [if_pos hco, hfx])
   have hb5 := below1 w2 (.cells #[.int .i64 0, .int .i64 0, .slice none 0 0] 25)
   have HV5 := tuck (HV3.out.below hb5)
   have HT5 := tuck (HT2.out.below hb5)
   clear hfx hb5 HV3
   obtain ⟨zv, v0, v1, v2, vf⟩ := HV5.out.facts
   have HR := tuck (stored_none HB1.out hz1 hg HT5.out)
   go_wp2_with fail
   exact bodyPost_ret (v := .tuple #[.agg #[.int .i64 0, .int .i64 0, .slice none 0 0], .bool false]) (by simp [results, Tryz.results143, go_sem, *]) rfl (HNO.out _ HO.out (HR.out _ _ _))
  | some x =>
   rw [hfx] at hm2
   obtain ⟨v, rfl, ⟨sx, Fx, rfl, hox, hnx, hFx⟩, hcx⟩ := hm2
   obtain ⟨sa, sc, rfl⟩ := hox.form
   obtain ⟨hx1, hx2⟩ := HF.out L (a + 2) c x (by have := colon_lt hco; omega) hc hfx
   have HFX := tuck hfx
   have hbx := below1 w2 (.cells #[.int .i64 x.1.kind, .int .i64 x.1.num, .slice sa x.1.kids.length sc] 25)
   have HVX := tuck (VarAt.new w2 x.1.kind x.1.num (.slice sa x.1.kids.length sc))
   have HV4 := tuck (HV3.out.below hbx)
   have HT4 := tuck (HT2.out.below hbx)
   have HC4 := tuck (hcx.below hbx)
   have HW4 := tuck (RW.turn (by have := HZ1.out; have := HZ2.out; omega) (Turn.of_below hbx) HW3.out)
   have HOX := tuck (hox.below (fun y hy => (hFx y hy).2) hbx)
   have hzA : w2.heap.size < (w2.alloc (.cells #[.int .i64 x.1.kind, .int .i64 x.1.num, .slice sa x.1.kids.length sc] 25)).heap.size := by simp
   have HFB : Hid (∀ z ∈ Fx, W0.heap.size ≤ z ∧ z < w2.heap.size) := tuck fun z hz => ⟨Nat.le_trans HZ1.out (hFx z hz).1, (hFx z hz).2⟩
   have HNX := tuck hnx
   clear hox hcx hbx hFx hnx hfx HV3 HW3
   go_wp2_with fail
   generalize w2.alloc (.cells #[.int .i64 x.1.kind, .int .i64 x.1.num, .slice sa x.1.kids.length sc] 25) = WA at *
   refine (rd_next_any g s x.2.1 x.2.2 fo WA HC4.out hx1 hs).mono ?_
   rintro e w3 ⟨rfl, ht3, hc3⟩
   have HTA3 := tuck ht3
   have HC5 := tuck hc3
   have hz2 := HZ2.out
   have hz0 := HZ1.out
   have HV5 := tuck (HV4.out.only ht3.1 (by omega))
   have HVX5 := tuck (HVX.out.only ht3.1 (by omega))
   have HW5 := tuck (RW.turn (by omega) ht3 HW4.out)
   have HOX5 := tuck (HOX.out.turn ht3 (fun z hz => ⟨by have := (HFB.out z hz).2; omega, by have := (HFB.out z hz).1; omega⟩))
   clear ht3 hc3 HV4 HVX HW4 HOX HC4
   go_wp2_with fail
   refine (rd_roundKind_any _ _).mono ?_
   rintro e w4 ⟨rfl, hw4⟩
   have hw5 := hw4.symm
   subst hw5
   have HBK := tuck (bind_round (byteAt s x.2.1))
   have HCT : Hid (nctRound s f L a c = if bindKind (byteAt s x.2.1) = 0 then none else bodyOf s (bindKind (byteAt s x.2.1)) x.1 41 (f ((byteAt s a : Int) :: L) (x.2.1 + 1) x.2.2)) := tuck (by
    unfold nctRound bodyOf
    rw [if_pos hco, HFX.out]
    dsimp only
    by_cases hr : bindKind (byteAt s x.2.1) = 0
    ·rw [if_pos hr, if_pos hr]
    ·rw [if_neg hr, if_neg hr]
     cases f ((byteAt s a : Int) :: L) (x.2.1 + 1) x.2.2 with
     | none => rfl
     | some y =>
      dsimp only
      unfold endAt
      by_cases h41 : byteAt s y.2.1 = 41
      ·simp [h41]
      ·simp [h41])
   by_cases hr0 : roundKind (byteAt s x.2.1) = 0
   ·have HO : Hid (nctRound s f L a c = none) := tuck (by rw [HCT.out, HBK.out, hr0]; rfl)
    have hrb : (roundKind (byteAt s x.2.1) != 0) = false := by simp [hr0]
    rw [hrb, hr0]
    clear hrb hr0 HCT HBK hco
    obtain ⟨zv, v0, v1, v2, vf⟩ := HV5.out.facts
    have HR := tuck (stored_none HB1.out hz1 hg (HT4.out.trans HTA3.out))
    go_wp2_with fail
    exact bodyPost_ret (v := .tuple #[.agg #[.int .i64 0, .int .i64 0, .slice none 0 0], .bool false]) (by simp [results, Tryz.results143, go_sem, *]) rfl (HNO.out _ HO.out (HR.out _ _ _))
   have hrb : (roundKind (byteAt s x.2.1) != 0) = true := by simp [hr0]
   by_cases hr5 : roundKind (byteAt s x.2.1) = 5
   ·have HO : Hid (nctRound s f L a c = none) := tuck (by rw [HCT.out, HBK.out, hr5]; rfl)
    rw [hrb, hr5]
    clear hrb hr0 hr5 HCT HBK hco
    obtain ⟨zv, v0, v1, v2, vf⟩ := HV5.out.facts
    have HR := tuck (stored_none HB1.out hz1 hg (HT4.out.trans HTA3.out))
    go_wp2_with fail
    exact bodyPost_ret (v := .tuple #[.agg #[.int .i64 0, .int .i64 0, .slice none 0 0], .bool false]) (by simp [results, Tryz.results143, go_sem, *]) rfl (HNO.out _ HO.out (HR.out _ _ _))
   have hbk : bindKind (byteAt s x.2.1) = roundKind (byteAt s x.2.1) := by rw [HBK.out, if_neg hr5]
   have hb0 : bindKind (byteAt s x.2.1) ≠ 0 := by rw [hbk]; exact hr0
   have hlt := (bindKind_lt hb0).1
   rw [if_pos hlt] at HC5
   have hne5 : (roundKind (byteAt s x.2.1) == 5) = false := by simpa using hr5
   have HOB : Hid (nctRound s f L a c = bodyOf s (roundKind (byteAt s x.2.1)) x.1 41 (f ((byteAt s a : Int) :: L) (x.2.1 + 1) x.2.2)) := tuck (by rw [HCT.out, if_neg hb0, hbk])
   have hs3 := HTA3.out.size
   have HBD := tuck (rd_body g s hs fo L (byteAt s a) (f ((byteAt s a : Int) :: L)) D hD (fun a c x h1 h2 h3 => HF.out _ a c x h1 h2 h3) (fun a c w h1 h2 h3 h4 => HTT.out _ a c w (by rw [List.length_cons]; omega) h1 h2 h3 h4) (roundKind (byteAt s x.2.1)) x.1 sa sc Fx W0.heap.size (ByteArray.mk #[41]) 41 (Or.inr ⟨by decide, by decide, rfl⟩) (x.2.1 + 1) x.2.2 w3 hg0 HOX5.out HNX.out (fun z hz => ⟨(HFB.out z hz).1, by have := (HFB.out z hz).2; omega⟩) (by omega) HW5.out HC5.out (by omega) hx2)
   have HVB := HV5
   have HTB := tuck (HT4.out.trans HTA3.out)
   obtain ⟨zx, x0, x1, x2, xf⟩ := HVX5.out.facts
   rw [hrb]
   clear hrb hr0 hr5 HCT HBK hco hbk hb0 HW5 HC5 HOX5
   generalize roundKind (byteAt s x.2.1) = rk at *
   generalize bodyOf s rk x.1 41 (f ((byteAt s a : Int) :: L) (x.2.1 + 1) x.2.2) = ob at *
   generalize byteAt s a = b at *
   go_wp2_with fail
   refine HBD.out.mono ?_
   rintro e w4 ⟨ht5, hm5⟩
   have ht4 := HTB.out.trans ht5
   have hm4 : match nctRound s f L a c with
     | some x => ∃ v, e = .returned (.tuple #[v, .bool true]) ∧ Made W0.heap.size x.1 v w4 ∧ Cur g s x.2.1 x.2.2 fo w4
     | none => e = .returned (.tuple #[.agg #[.int .i64 0, .int .i64 0, .slice none 0 0], .bool false]) := by
    rw [HOB.out]
    exact hm5
   have HBC := HB1
   have HZC := tuck hz1
   have HVC := tuck (HVB.out.only ht5.1 (by omega))
   have HO : Hid (nctRound s f L a c = nctRound s f L a c) := tuck rfl
   clear ht5 hm5
   have HV4 := HVC
   obtain ⟨zv, v0, v1, v2, vf⟩ := HV4.out.facts
   clear HV4
   cases ho : nctRound s f L a c with
   | none =>
    rw [ho] at hm4
    obtain rfl := hm4
    have HT4 := tuck (stored_none HBC.out HZC.out hg ht4)
    have HO4 := tuck (HO.out.trans ho)
    clear ht4 ho
    go_wp2_with fail
    exact bodyPost_ret (v := .tuple #[.agg #[.int .i64 0, .int .i64 0, .slice none 0 0], .bool false]) (by simp [results, Tryz.results143, go_sem, *]) rfl (HNO.out _ HO4.out (HT4.out _ _ _))
   | some x =>
    rw [ho] at hm4
    obtain ⟨v, rfl, hmx, hcx⟩ := hm4
    have HS4 := tuck (stored_some HBC.out HZC.out hg ht4 hmx hcx)
    obtain ⟨sx, Fx, rfl, hox, -, -⟩ := hmx
    obtain ⟨sa, sc, rfl⟩ := hox.form
    have HO4 := tuck (HO.out.trans ho)
    clear ht4 ho hcx hox
    go_wp2_with fail
    exact bodyPost_ret (v := .tuple #[.agg #[.int .i64 x.1.kind, .int .i64 x.1.num, .slice sa x.1.kids.length sc], .bool true]) (by simp [results, Tryz.results143, go_sem, *]) rfl (HYES.out _ x _ HO4.out (HS4.out _ _ _).1 (HS4.out _ _ _).2.1 (HS4.out _ _ _).2.2)
set_option maxRecDepth 100000 in
set_option maxHeartbeats 4000000 in
theorem rn_function (LB : Nat) (hLB : LB ≤ 900) (g : Nat) (s : ByteArray) (hs : s.size ≤ 1152921504606846976) (fo : Value) (Ty : TypeId) (hfm : FormOk fo (.pointer (some ⟨g, 0, none⟩)) 140 Ty) (f : List Int → Nat → Nat → Option (Tm × Nat × Nat)) (D : Nat) (hD : D ≤ 1000) (hf : ∀ L a c x, a ≤ s.size → c ≤ 400 → f L a c = some x → x.2.1 ≤ s.size ∧ x.2.2 ≤ 400)
  (HT : ∀ (L : List Int) (a c : Nat) (w : World), L.length ≤ LB + 1 → RW g s L w → Cur g s a c fo w → a ≤ s.size → c ≤ 400 → Calls Tryz.prog 140 #[.pointer (some ⟨g, 0, none⟩), .int .i64 ((D + 1 : Nat) : Int)] w (TmPost g s fo w (f L a c)))
  (L : List Int) (hL : L.length ≤ LB) (a c : Nat) (w : World) (hw : RW g s L w) (hcu : Cur g s a c fo w) (ha : a ≤ s.size) (hc : c ≤ 400) :
  Calls Tryz.prog 144 #[.pointer (some ⟨g, 0, none⟩), .int .i64 D] w (TmPost g s fo w (nctFun s f L a c)) := by
 have hg := hcu.facts.1
 have HNO : Hid (∀ w', nctFun s f L a c = none → Turn g w w' → TmPost g s fo w (nctFun s f L a c) (.returned (.tuple #[.agg #[.int .i64 0, .int .i64 0, .slice none 0 0], .bool false])) w') := tuck fun w' h ht => TmPost.no h ht
 have HYES : Hid (∀ w' x v, nctFun s f L a c = some x → Turn g w w' → Made w.heap.size x.1 v w' → Cur g s x.2.1 x.2.2 fo w' → TmPost g s fo w (nctFun s f L a c) (.returned (.tuple #[v, .bool true])) w') := tuck fun w' x v h ht hm hc => TmPost.yes h ht hm hc
 generalize TmPost g s fo w (nctFun s f L a c) = post at *
 have HTN : Hid (∀ (L : List Int) (a c : Nat) (w : World), L.length ≤ LB + 1 → RW g s L w → Cur g s a c fo w → a ≤ s.size → c ≤ 400 → Calls Tryz.prog 140 #[.pointer (some ⟨g, 0, none⟩), .int .i64 ((D : Int) + 1)] w (TmPost g s fo w (f L a c))) := tuck (by rw [show ((D + 1 : Nat) : Int) = (D : Int) + 1 by omega] at HT; exact HT)
 have HTT := tuck HT
 have HF := tuck hf
 have HFM := tuck hfm
 have hb1 := below1 w (.cells #[.int .i64 0, .int .i64 0, .slice none 0 0] 25)
 have HB1 := tuck hb1
 have HV1 := tuck (VarAt.new w 0 0 (.slice none 0 0))
 have HC1 := tuck (hcu.below hb1)
 have HW1 := tuck (RW.turn hg (Turn.of_below hb1) hw)
 have hz1 : w.heap.size < (w.alloc (.cells #[.int .i64 0, .int .i64 0, .slice none 0 0] 25)).heap.size := by simp
 clear hcu hw HT hf hfm hb1
 go_enter Tryz.func144, Tryz.ntmps144
 go_wp2_with fail
 generalize w.alloc (.cells #[.int .i64 0, .int .i64 0, .slice none 0 0] 25) = W0 at *
 have hg0 : g < W0.heap.size := by omega
 refine (rd_binderName g s hs a c fo W0 HC1.out ha).mono ?_
 rintro e w1 ⟨ht1, rfl, hc1⟩
 have HT1 := tuck ht1
 have HC2 := tuck hc1
 have HV2 := tuck (HV1.out.only ht1.1 (by omega))
 have HW2 := tuck (RW.turn hg0 ht1 HW1.out)
 clear ht1 hc1 HV1 HC1 HW1
 cases hco : colon s a with
 | false =>
  have HO : Hid (nctFun s f L a c = none) := tuck (by unfold nctFun; rw [if_neg (by rw [hco]; simp)])
  clear hco HC2
  obtain ⟨zv, v0, v1, v2, vf⟩ := HV2.out.facts
  have HR := tuck (stored_none HB1.out hz1 hg HT1.out)
  go_wp2_with fail
  exact bodyPost_ret (v := .tuple #[.agg #[.int .i64 0, .int .i64 0, .slice none 0 0], .bool false]) (by simp [results, Tryz.results144, go_sem, *]) rfl (HNO.out _ HO.out (HR.out _ _ _))
 | true =>
  rw [hco] at HC2
  rw [if_pos rfl] at HC2
  rw [if_pos rfl]
  go_wp2_with fail
  refine (HTN.out L (a + 2) c w1 (by omega) HW2.out HC2.out (by have := colon_lt hco; omega) hc).mono ?_
  rintro e w2 ⟨ht2, hm2⟩
  have HT2 := tuck (HT1.out.trans ht2)
  have HV3 := tuck (HV2.out.only ht2.1 (by omega))
  have HW3 := tuck (RW.turn (by have := HT1.out.size; omega) ht2 HW2.out)
  have HZ1 : Hid (W0.heap.size ≤ w1.heap.size) := tuck HT1.out.size
  have HZ2 : Hid (w1.heap.size ≤ w2.heap.size) := tuck ht2.size
  clear ht2 HC2 HV2 HW2
  cases hfx : f L (a + 2) c with
  | none =>
   rw [hfx] at hm2
   obtain rfl := hm2
   have HO : Hid (nctFun s f L a c = none) := tuck (by unfold nctFun; rw [if_pos hco, hfx])
   have hb5 := below1 w2 (.cells #[.int .i64 0, .int .i64 0, .slice none 0 0] 25)
   have HV5 := tuck (HV3.out.below hb5)
   have HT5 := tuck (HT2.out.below hb5)
   clear hfx hb5 HV3
   obtain ⟨zv, v0, v1, v2, vf⟩ := HV5.out.facts
   have HR := tuck (stored_none HB1.out hz1 hg HT5.out)
   go_wp2_with fail
   exact bodyPost_ret (v := .tuple #[.agg #[.int .i64 0, .int .i64 0, .slice none 0 0], .bool false]) (by simp [results, Tryz.results144, go_sem, *]) rfl (HNO.out _ HO.out (HR.out _ _ _))
  | some x =>
   rw [hfx] at hm2
   obtain ⟨v, rfl, ⟨sx, Fx, rfl, hox, hnx, hFx⟩, hcx⟩ := hm2
   obtain ⟨sa, sc, rfl⟩ := hox.form
   obtain ⟨hx1, hx2⟩ := HF.out L (a + 2) c x (by have := colon_lt hco; omega) hc hfx
   have HFX := tuck hfx
   have hbx := below1 w2 (.cells #[.int .i64 x.1.kind, .int .i64 x.1.num, .slice sa x.1.kids.length sc] 25)
   have HVX := tuck (VarAt.new w2 x.1.kind x.1.num (.slice sa x.1.kids.length sc))
   have HV4 := tuck (HV3.out.below hbx)
   have HT4 := tuck (HT2.out.below hbx)
   have HC4 := tuck (hcx.below hbx)
   have HW4 := tuck (RW.turn (by have := HZ1.out; have := HZ2.out; omega) (Turn.of_below hbx) HW3.out)
   have HOX := tuck (hox.below (fun y hy => (hFx y hy).2) hbx)
   have hzA : w2.heap.size < (w2.alloc (.cells #[.int .i64 x.1.kind, .int .i64 x.1.num, .slice sa x.1.kids.length sc] 25)).heap.size := by simp
   have HFB : Hid (∀ z ∈ Fx, W0.heap.size ≤ z ∧ z < w2.heap.size) := tuck fun z hz => ⟨Nat.le_trans HZ1.out (hFx z hz).1, (hFx z hz).2⟩
   have HNX := tuck hnx
   clear hox hcx hbx hFx hnx hfx HV3 HW3
   go_wp2_with fail
   generalize w2.alloc (.cells #[.int .i64 x.1.kind, .int .i64 x.1.num, .slice sa x.1.kids.length sc] 25) = WA at *
   have HTK := tuck (rd_take_any g s (ByteArray.mk #[93]) x.2.1 x.2.2 93 fo WA HC4.out hx1 hs (Or.inr ⟨by decide, by decide, rfl⟩))
   rw [show endAt s x.2.1 93 = (byteAt s x.2.1 == 93) from rfl] at HTK
   have hz2 := HZ2.out
   have hz0 := HZ1.out
   by_cases h93 : byteAt s x.2.1 = 93
   ·rw [show (byteAt s x.2.1 == 93) = true by rw [h93]; rfl, show (if true = true ∧ 93 ≠ 0 then x.2.1 + 1 else x.2.1) = x.2.1 + 1 from rfl] at HTK
    have hlt := byte_lt h93 (by decide)
    have HOB : Hid (nctFun s f L a c = bodyOf s 4 x.1 0 (f ((byteAt s a : Int) :: L) (x.2.1 + 1) x.2.2)) := tuck (by
     unfold nctFun bodyOf
     rw [if_pos hco, HFX.out]
     dsimp only
     rw [if_pos h93]
     cases f ((byteAt s a : Int) :: L) (x.2.1 + 1) x.2.2 with
     | none => rfl
     | some y => dsimp only; unfold endAt; simp)
    clear h93
    refine HTK.out.mono ?_
    rintro e w3 ⟨rfl, ht3, hc3⟩
    have HTA3 := tuck ht3
    have HC5 := tuck hc3
    have HV5 := tuck (HV4.out.only ht3.1 (by omega))
    have HVX5 := tuck (HVX.out.only ht3.1 (by omega))
    have HW5 := tuck (RW.turn (by omega) ht3 HW4.out)
    have HOX5 := tuck (HOX.out.turn ht3 (fun z hz => ⟨by have := (HFB.out z hz).2; omega, by have := (HFB.out z hz).1; omega⟩))
    have hs3 := ht3.size
    clear ht3 hc3 HV4 HVX HW4 HOX HC4 HTK
    have HBD := tuck (rd_body g s hs fo L (byteAt s a) (f ((byteAt s a : Int) :: L)) D hD (fun a c x h1 h2 h3 => HF.out _ a c x h1 h2 h3) (fun a c w h1 h2 h3 h4 => HTT.out _ a c w (by rw [List.length_cons]; omega) h1 h2 h3 h4) 4 x.1 sa sc Fx W0.heap.size (ByteArray.mk #[]) 0 (Or.inl ⟨rfl, rfl⟩) (x.2.1 + 1) x.2.2 w3 hg0 HOX5.out HNX.out (fun z hz => ⟨(HFB.out z hz).1, by have := (HFB.out z hz).2; omega⟩) (by omega) HW5.out HC5.out (by omega) hx2)
    have HVB := HV5
    have HTB := tuck (HT4.out.trans HTA3.out)
    obtain ⟨zx, x0, x1, x2, xf⟩ := HVX5.out.facts
    clear hco HW5 HC5 HOX5
    generalize bodyOf s 4 x.1 0 (f ((byteAt s a : Int) :: L) (x.2.1 + 1) x.2.2) = ob at *
    generalize byteAt s a = b at *
    go_wp2_with fail
    refine HBD.out.mono ?_
    rintro e w4 ⟨ht5, hm5⟩
    have ht4 := HTB.out.trans ht5
    have hm4 : match nctFun s f L a c with
      | some x => ∃ v, e = .returned (.tuple #[v, .bool true]) ∧ Made W0.heap.size x.1 v w4 ∧ Cur g s x.2.1 x.2.2 fo w4
      | none => e = .returned (.tuple #[.agg #[.int .i64 0, .int .i64 0, .slice none 0 0], .bool false]) := by
     rw [HOB.out]
     exact hm5
    have HBC := HB1
    have HZC := tuck hz1
    have HVC := tuck (HVB.out.only ht5.1 (by omega))
    have HO : Hid (nctFun s f L a c = nctFun s f L a c) := tuck rfl
    clear ht5 hm5
    have HV4 := HVC
    obtain ⟨zv, v0, v1, v2, vf⟩ := HV4.out.facts
    clear HV4
    cases ho : nctFun s f L a c with
    | none =>
     rw [ho] at hm4
     obtain rfl := hm4
     have HT4 := tuck (stored_none HBC.out HZC.out hg ht4)
     have HO4 := tuck (HO.out.trans ho)
     clear ht4 ho
     go_wp2_with fail
     exact bodyPost_ret (v := .tuple #[.agg #[.int .i64 0, .int .i64 0, .slice none 0 0], .bool false]) (by simp [results, Tryz.results144, go_sem, *]) rfl (HNO.out _ HO4.out (HT4.out _ _ _))
    | some x =>
     rw [ho] at hm4
     obtain ⟨v, rfl, hmx, hcx⟩ := hm4
     have HS4 := tuck (stored_some HBC.out HZC.out hg ht4 hmx hcx)
     obtain ⟨sx, Fx, rfl, hox, -, -⟩ := hmx
     obtain ⟨sa, sc, rfl⟩ := hox.form
     have HO4 := tuck (HO.out.trans ho)
     clear ht4 ho hcx hox
     go_wp2_with fail
     exact bodyPost_ret (v := .tuple #[.agg #[.int .i64 x.1.kind, .int .i64 x.1.num, .slice sa x.1.kids.length sc], .bool true]) (by simp [results, Tryz.results144, go_sem, *]) rfl (HYES.out _ x _ HO4.out (HS4.out _ _ _).1 (HS4.out _ _ _).2.1 (HS4.out _ _ _).2.2)
   ·rw [show (byteAt s x.2.1 == 93) = false by simpa using h93] at HTK
    have HO : Hid (nctFun s f L a c = none) := tuck (by unfold nctFun; rw [if_pos hco, HFX.out]; dsimp only; rw [if_neg h93])
    clear h93
    refine HTK.out.mono ?_
    rintro e w3 ⟨rfl, ht3, -⟩
    have HV5 := tuck (HV4.out.only ht3.1 (by omega))
    have HTA3 := tuck ht3
    clear ht3 hco HTK
    obtain ⟨zv, v0, v1, v2, vf⟩ := HV5.out.facts
    have HR := tuck (stored_none HB1.out hz1 hg (HT4.out.trans HTA3.out))
    go_wp2_with fail
    exact bodyPost_ret (v := .tuple #[.agg #[.int .i64 0, .int .i64 0, .slice none 0 0], .bool false]) (by simp [results, Tryz.results144, go_sem, *]) rfl (HNO.out _ HO.out (HR.out _ _ _))
end Go.Proofs.YtjdmfegdgpbkgaaGreat
