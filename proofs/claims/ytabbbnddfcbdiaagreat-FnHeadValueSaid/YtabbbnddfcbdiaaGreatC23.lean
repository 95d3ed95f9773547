/-
  ContrT, Pv.
-/
import Derived.Test.YtabbbnddfcbdiaaGreatC14
import Derived.Test.YtabbbnddfcbdiaaGreatC16
import Derived.Test.YtabbbnddfcbdiaaGreatC21
import Derived.Test.YtabbbnddfcbdiaaGreatC22
namespace Go.Proofs.YtabbbnddfcbdiaaGreat
open Go.RowKit
theorem lcontract_any (t : Tm) (hr : t.rootOk) (hk : ∀ i (hi : i < t.kids.length), t.kids[i].Valid) (h0 : t.redex ≠ 0) (w : World) (s : Value) (hs : SlIn w 0 t.kids s) :
  Calls Tryz.prog 67 #[.agg #[.int .i64 t.kind, .int .i64 t.num, s]] w (SPost w t.contr) := by
 rcases redex_shape hr h0 with ⟨e, -⟩ | ⟨e, -⟩ | ⟨e, -⟩ | ⟨e, -⟩ | ⟨e, -⟩ | ⟨e, -⟩
 ·exact lcontr1_any t hr hk e w s hs
 ·exact lcontr2_any t hr hk e w s hs
 ·exact lcontr3_any t hr hk e w s hs
 ·exact lcontr4_any t hr hk e w s hs
 ·exact lcontr5_any t hr hk e w s hs
 ·exact lcontr6_any t hr hk e w s hs
set_option maxRecDepth 100000 in
theorem contractS_any (t : Tm) (w : World) (v : Value) (h : TmIn w 0 t v) : Calls Tryz.prog 31 #[v] w (SReplPost w (ContrOk t) t.contr) := by
 obtain ⟨s, rfl, hs⟩ := h
 obtain ⟨a, c, rfl⟩ := hs.form
 have hb2 := below2 w (.cells #[.int .i64 t.kind, .int .i64 t.num, .slice a t.kids.length c] 25) (.cells #[.int .i64 0, .int .i64 0, .slice none 0 0] 25)
 have HV0 := tuck ((VarAt.new w t.kind t.num (.slice a t.kids.length c)).below (below1 _ (.cells #[.int .i64 0, .int .i64 0, .slice none 0 0] 25)))
 have HV1 := tuck (var_new1 w (.cells #[.int .i64 t.kind, .int .i64 t.num, .slice a t.kids.length c] 25) 0 0 (.slice none 0 0))
 have HRED := tuck (redexOfS_any t _ _ ⟨_, rfl, hs.below hb2⟩)
 have HB2 := tuck hb2
 have HS := tuck hs
 have HN : Hid (¬ ContrOk t → ∀ w', Below w.heap.size w w' → SReplPost w (ContrOk t) t.contr (.returned (.tuple #[.agg #[.int .i64 0, .int .i64 0, .slice none 0 0], .bool false])) w') := tuck fun h w' hb => SReplPost.no h hb
 have HY : Hid (ContrOk t → ∀ w' s, Below w.heap.size w w' → SlIn w' 0 t.contr.kids s → SReplPost w (ContrOk t) t.contr (.returned (.tuple #[.agg #[.int .i64 t.contr.kind, .int .i64 t.contr.num, s], .bool true])) w') := tuck fun h w' s h1 h2 => SReplPost.yes h h1 h2
 clear hb2 hs
 generalize hpost : SReplPost w (ContrOk t) t.contr = post at *
 by_cases hv : t.Valid ∧ t.redex ≠ 0
 ·have hro : redexOf t = t.redex := if_pos hv.1
  have hrn : (t.redex == 0) = false := by simpa using hv.2
  rw [hro] at HRED
  have HCON : Hid (∀ w1, Below w.heap.size w w1 → Calls Tryz.prog 67 #[.agg #[.int .i64 t.kind, .int .i64 t.num, .slice a t.kids.length c]] w1 (SPost w1 t.contr)) := tuck fun w1 h => lcontract_any t hv.1.root (fun i hi => hv.1.get hi) hv.2 w1 _ (HS.out.below h)
  have HVAL : Hid (∀ (w1 : World) (s : Value), SlIn w1 0 t.contr.kids s → Calls Tryz.prog 60 #[.agg #[.int .i64 t.contr.kind, .int .i64 t.contr.num, s]] w1 (BoolPost w1 (tr t.contr.Valid))) := tuck fun w1 s h => validS_any t.contr w1 _ ⟨_, rfl, h⟩
  have HYN : Hid ((t.contr.Valid ∧ tr t.contr.Valid = true ∧ ContrOk t) ∨ (tr t.contr.Valid = false ∧ ¬ ContrOk t)) := tuck (by
   by_cases hc : t.contr.Valid
   ·exact Or.inl ⟨hc, tr_of hc, hv.1, hv.2, hc⟩
   ·exact Or.inr ⟨tr_not hc, fun h => hc h.2.2⟩)
  clear hpost HS hv hro
  generalize t.contr = T at *
  generalize t.redex = R at *
  go_enter Tryz.func31, Tryz.ntmps31
  go_wp2_with fail
  refine HRED.out.mono ?_
  rintro e w1 ⟨rfl, hb1⟩
  obtain ⟨z0, a0, a1, a2, -⟩ := (HV0.out.below hb1).facts
  obtain ⟨z1, r0, r1, r2, rf⟩ := (HV1.out.below hb1).facts
  have HB1 := tuck (bAfter HB2.out hb1)
  clear hb1 HRED
  go_wp2_with fail
  refine (HCON.out _ HB1.out).mono ?_
  rintro e w2 hp2
  obtain ⟨ua, uc, rfl, hb2, hs2⟩ := hp2.open
  replace r0 := (hb2.cell (p := ⟨w.heap.size + 1, 0, none⟩) z1).trans r0
  replace r1 := (hb2.cell (p := ⟨w.heap.size + 1, 1, none⟩) z1).trans r1
  replace r2 := (hb2.cell (p := ⟨w.heap.size + 1, 2, none⟩) z1).trans r2
  have rf2 : ∀ i, w2.frozen? ⟨w.heap.size + 1, i, none⟩ = false := fun i => (hb2.frozen (p := ⟨w.heap.size + 1, i, none⟩) z1).trans (rf i)
  have z2 : w.heap.size + 1 < w2.heap.size := Nat.lt_of_lt_of_le z1 hb2.size
  have HB3 := tuck (bAfter HB1.out hb2)
  have HS2 := tuck hs2
  clear hp2 hb2 hs2 rf HCON a0 a1 a2
  go_wp2_with fail
  have hbx := below1 w2 (.cells #[.int .i64 T.kind, .int .i64 T.num, .slice ua T.kids.length uc] 25)
  refine (HVAL.out _ _ ((HS2.out.below hbx).mono (Nat.zero_le _))).mono ?_
  rintro e w3 ⟨rfl, hb3⟩
  have hb23 := bAfter hbx hb3
  replace r0 := (hb23.cell (p := ⟨w.heap.size + 1, 0, none⟩) z2).trans r0
  replace r1 := (hb23.cell (p := ⟨w.heap.size + 1, 1, none⟩) z2).trans r1
  replace r2 := (hb23.cell (p := ⟨w.heap.size + 1, 2, none⟩) z2).trans r2
  have rf3 : ∀ i, w3.frozen? ⟨w.heap.size + 1, i, none⟩ = false := fun i => (hb23.frozen (p := ⟨w.heap.size + 1, i, none⟩) z2).trans (rf2 i)
  obtain ⟨zU, u0, u1, u2, -⟩ := ((VarAt.new w2 T.kind T.num (.slice ua T.kids.length uc)).below hb3).facts
  have HB4 := tuck (bAfter HB3.out hb23)
  have HS3 := tuck (HS2.out.below hb23)
  have HZW : Hid (w.heap.size + 1 < w1.heap.size) := tuck z1
  have hne : w.heap.size + 1 ≠ w2.heap.size := by omega
  clear hbx hb3 hb23 rf2
  rcases HYN.out with ⟨hc, hcv, hok⟩ | ⟨hcv, hok⟩
  ·rw [hcv]
   replace HY := tuck (HY.out hok)
   clear HYN HN hok hc hcv
   go_wp2_with fail
   refine bodyPost_ret (v := .tuple #[.agg #[.int .i64 T.kind, .int .i64 T.num, .slice ua T.kids.length uc], .bool true]) (by simp [results, Tryz.results31, go_sem, *]) rfl (HY.out _ _ ?_ ?_)
   ·exact bSet3 HB4.out (Nat.le_succ _) _ _ _ _ _ _
   ·exact (SlIn.set3 HS3.out HZW.out).mono (Nat.zero_le _)
  ·rw [hcv]
   replace HN := tuck (HN.out hok)
   clear HYN HY hok hcv
   go_wp2_with fail
   refine bodyPost_ret (v := .tuple #[.agg #[.int .i64 0, .int .i64 0, .slice none 0 0], .bool false]) (by simp [results, Tryz.results31, go_sem, *]) rfl (HN.out _ ?_)
   exact bSet3 HB4.out (Nat.le_succ _) _ _ _ _ _ _
 ·have hro : redexOf t = 0 := by
   by_cases h : t.Valid
   ·unfold redexOf; rw [if_pos h]; exact Classical.byContradiction fun h2 => hv ⟨h, h2⟩
   ·exact if_neg h
  rw [hro] at HRED
  replace HN := tuck (HN.out (fun h => hv ⟨h.1, h.2.1⟩))
  clear hpost HS hv hro HY
  go_enter Tryz.func31, Tryz.ntmps31
  go_wp2_with fail
  refine HRED.out.mono ?_
  rintro e w1 ⟨rfl, hb1⟩
  obtain ⟨z0, a0, a1, a2, -⟩ := (HV0.out.below hb1).facts
  obtain ⟨z1, r0, r1, r2, rf⟩ := (HV1.out.below hb1).facts
  have HB1 := tuck (bAfter HB2.out hb1)
  clear hb1 HRED
  go_wp2_with fail
  refine bodyPost_ret (v := .tuple #[.agg #[.int .i64 0, .int .i64 0, .slice none 0 0], .bool false]) (by simp [results, Tryz.results31, go_sem, *]) rfl (HN.out _ ?_)
  exact bSet3 HB1.out (Nat.le_succ _) _ _ _ _ _ _
end Go.Proofs.YtabbbnddfcbdiaaGreat
namespace Go.Proofs.YtabbbnddfcbdiaaGreat
open Go.RowKit
def ParseD (w : World) (e : Ending) (w' : World) : Prop := Below w.heap.size w w' ∧ ∃ (T : Tm) (ok : Bool) (v : Value), e = .returned (.tuple #[v, .bool ok]) ∧ TmIn w' w.heap.size T v ∧ (ok = true → T.Valid)
set_option maxRecDepth 100000 in
set_option maxHeartbeats 4000000 in
theorem parseD_any (s : ByteArray) (hs : s.size ≤ 100000) (w : World) : Calls Tryz.prog 85 #[.string s] w (ParseD w) := by
 have HN : Hid (∀ w', Below w.heap.size w w' → ParseD w (.returned (.tuple #[.agg #[.int .i64 0, .int .i64 0, .slice none 0 0], .bool false])) w') := tuck fun w' hb => ⟨hb, zeroT, false, _, rfl, ⟨_, rfl, SlIn.nil _ _ _ _⟩, fun h => by cases h⟩
 have HY : Hid (∀ (T : Tm) (w' : World) (a : Option Addr) (c : Nat), Below w.heap.size w w' → SlIn w' w.heap.size T.kids (.slice a T.kids.length c) → T.Valid → ParseD w (.returned (.tuple #[.agg #[.int .i64 T.kind, .int .i64 T.num, .slice a T.kids.length c], .bool true])) w') := tuck fun T w' a c hb h2 hv => ⟨hb, T, true, _, rfl, ⟨_, rfl, h2⟩, fun _ => hv⟩
 generalize ParseD w = post at *
 have HPA : Hid (∀ W, Calls Tryz.prog 114 #[.string s, .int .i64 0, .int .i64 30] W (PW s W)) := tuck fun W => wparse_ok s (by omega) 30 (by decide) 0 W (by decide) (by omega)
 have HF : Hid (∀ T (w : World) (v : Value), TmIn w 0 T v → Calls Tryz.prog 115 #[v] w (StrPost w (fmtOf T))) := tuck format_any
 have HB1 := tuck (below1 w (.cells #[.int .i64 0, .int .i64 0, .slice none 0 0] 25))
 have HV1 := tuck (VarAt.new w 0 0 (.slice none 0 0))
 go_enter Tryz.func85, Tryz.ntmps85
 go_wp2_with fail
 generalize w.alloc (.cells #[.int .i64 0, .int .i64 0, .slice none 0 0] 25) = W1 at *
 refine (HPA.out _).mono ?_
 rintro e w3 ⟨hb3, T, ta, tc, nx, rfl, hs3, hm⟩
 have hbx := below1 w3 (.cells #[.int .i64 T.kind, .int .i64 T.num, .slice ta T.kids.length tc] 25)
 have HV3 := tuck ((HV1.out.below hb3).below hbx)
 have HVT := tuck (VarAt.new w3 T.kind T.num (.slice ta T.kids.length tc))
 have HB3 := tuck (bAfter HB1.out (bAfter hb3 hbx))
 have HZ1 : Hid (w.heap.size + 1 ≤ W1.heap.size) := tuck HV1.out.facts.1
 have HS3 := tuck (hs3.below hbx)
 have HM := tuck hm
 obtain ⟨z1, r0, r1, r2, rf⟩ := HV3.out.facts
 obtain ⟨zt, t0, t1, t2, -⟩ := HVT.out.facts
 clear hb3 hs3 hbx hm HPA
 by_cases h0 : s.size = 0
 ·obtain rfl : s = ByteArray.mk #[] := ByteArray.size_eq_zero_iff.1 h0
  clear HY HM
  go_wp2_with fail
  refine bodyPost_ret (v := .tuple #[.agg #[.int .i64 0, .int .i64 0, .slice none 0 0], .bool false]) (by simp [results, Tryz.results85, go_sem, *]) rfl (HN.out _ ?_)
  first | exact bSet3 HB3.out (Nat.le_refl _) _ _ _ _ _ _ | exact HB3.out
 ·have he1 := ba_ne h0
  have he2 := ba_ne' h0
  by_cases hn : nx = (s.size : Int)
  ·have hk : (nx != (s.size : Int)) = false := by rw [bne_eq_false_iff_eq]; exact hn
   have HFT : Hid (∀ W : World, Below (w3.alloc (.cells #[.int .i64 T.kind, .int .i64 T.num, .slice ta T.kids.length tc] 25)).heap.size (w3.alloc (.cells #[.int .i64 T.kind, .int .i64 T.num, .slice ta T.kids.length tc] 25)) W → Calls Tryz.prog 115 #[.agg #[.int .i64 T.kind, .int .i64 T.num, .slice ta T.kids.length tc]] W (StrPost W (fmtOf T))) := tuck fun W h => HF.out T W _ ⟨_, rfl, (HS3.out.mono (Nat.zero_le _)).below h⟩
   by_cases hf : fmtOf T = s
   ·have hT : T.Valid := Classical.byContradiction fun h => by
     rw [fmtOf_no h] at hf
     exact h0 (by rw [← hf]; rfl)
    rw [hf] at HFT
    clear HN HM HF hf
    go_wp2_with fail
    refine (HFT.out _ (Below.refl _ _)).mono ?_
    rintro e w5 ⟨rfl, hb5⟩
    have HB5 := tuck (bAfter HB3.out hb5)
    have HS5 := tuck (HS3.out.below hb5)
    clear z1 r0 r1 r2 rf zt t0 t1 t2
    obtain ⟨z1, r0, r1, r2, rf⟩ := (HV3.out.below hb5).facts
    obtain ⟨zt, t0, t1, t2, -⟩ := (HVT.out.below hb5).facts
    clear hb5
    go_wp2_with fail
    refine bodyPost_ret (v := .tuple #[.agg #[.int .i64 T.kind, .int .i64 T.num, .slice ta T.kids.length tc], .bool true]) (by simp [results, Tryz.results85, go_sem, *]) rfl (HY.out T _ _ _ ?_ ?_ hT)
    ·exact bSet3 HB5.out (Nat.le_refl _) _ _ _ _ _ _
    ·exact (SlIn.set3 (HS5.out.mono HZ1.out) (Nat.lt_succ_self _)).mono (Nat.le_succ _)
   ·generalize fmtOf T = Y at *
    have hf1 : (Y.toList == s.toList) = false := by rw [beq_eq_false_iff_ne]; exact fun h => hf (ba_inj h)
    have hf2 : ¬ (Y.toList = s.toList) := fun h => hf (ba_inj h)
    clear HY HM HF
    go_wp2_with fail
    refine (HFT.out _ (Below.refl _ _)).mono ?_
    rintro e w5 ⟨rfl, hb5⟩
    have HB5 := tuck (bAfter HB3.out hb5)
    clear z1 r0 r1 r2 rf zt t0 t1 t2
    obtain ⟨z1, r0, r1, r2, rf⟩ := (HV3.out.below hb5).facts
    clear hb5
    go_wp2_with fail
    refine bodyPost_ret (v := .tuple #[.agg #[.int .i64 0, .int .i64 0, .slice none 0 0], .bool false]) (by simp [results, Tryz.results85, go_sem, *]) rfl (HN.out _ ?_)
    first | exact bSet3 HB5.out (Nat.le_refl _) _ _ _ _ _ _ | exact HB5.out
  ·have hk : (nx != (s.size : Int)) = true := by rw [bne_iff_ne]; exact hn
   clear HY HM HF
   go_wp2_with fail
   refine bodyPost_ret (v := .tuple #[.agg #[.int .i64 0, .int .i64 0, .slice none 0 0], .bool false]) (by simp [results, Tryz.results85, go_sem, *]) rfl (HN.out _ ?_)
   first | exact bSet3 HB3.out (Nat.le_refl _) _ _ _ _ _ _ | exact HB3.out
end Go.Proofs.YtabbbnddfcbdiaaGreat
