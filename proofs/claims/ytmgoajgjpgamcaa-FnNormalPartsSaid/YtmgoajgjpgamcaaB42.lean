/-
  Norm.
-/
import Derived.Test.YtmgoajgjpgamcaaB04
import Derived.Test.YtmgoajgjpgamcaaB13
import Derived.Test.YtmgoajgjpgamcaaB41
namespace Go.Proofs.Ytmgoajgjpgamcaa
open Go.RowKit
mutual
def Tm.nf : Tm → Bool
 | .mk k n l => nfL l && ((Tm.mk k n l).redex == 0)
def nfL : List Tm → Bool
 | [] => true
 | t :: l => t.nf && nfL l
end
mutual
theorem Tm.find_nf : ∀ t : Tm, (t.find false false).isNone = t.nf
 | .mk k n l => by
  rw [Tm.find, Tm.nf]
  have h := findL_nf (.mk k n l) l 0
  by_cases hr : (Tm.mk k n l).redex = 0
  ·rw [if_neg (by simp [hr]), ← h]
   cases findL false false (.mk k n l) l 0 <;> simp [hr]
  ·rw [if_pos ⟨hr, rfl⟩]
   simp [hr]
theorem findL_nf (t0 : Tm) : ∀ (l : List Tm) (i : Nat), (findL false false t0 l i).isNone = nfL l
 | [], _ => by rw [findL, nfL]; rfl
 | t :: l, i => by
  rw [findL, nfL, ← Tm.find_nf t, ← findL_nf t0 l (i + 1), if_neg (by simp)]
  cases t.find false false <;> rfl
end
noncomputable def normalOf (t : Tm) : Bool := tr (t.Valid ∧ t.nf = true)
set_option maxRecDepth 100000 in
set_option maxHeartbeats 1600000 in
theorem nfS_any : ∀ (l : List Tm) (k n : Int) (w : World) (s : Value), (Tm.mk k n l).allOk → SlIn w 0 l s →
  Calls Try.prog 40 #[.agg #[.int .i64 k, .int .i64 n, s]] w (BoolPost w (Tm.mk k n l).nf) := by
 intro l
 induction l using Tm.ind with
 | h l ih =>
 intro k n w v1 hok h1
 have hroot : (Tm.mk k n l).rootOk := ((Tm.mk k n l).allOk_iff.1 hok).1
 have hkids : allsOk l := ((Tm.mk k n l).allOk_iff.1 hok).2
 obtain ⟨a, cap, b, o, rfl, hl, hp, hc⟩ := h1.open
 have HRED : Hid (∀ W, Below w.heap.size w W → Calls Try.prog 51 #[.agg #[.int .i64 k, .int .i64 n, .slice a l.length cap]] W (IntPost W (Tm.mk k n l).redex)) := tuck fun W h => redS_any (.mk k n l) hroot W (.slice a l.length cap) (h1.below h)
 rw [Tm.nf]
 have HI := tuck ih
 have HP := tuck hp
 have HC := tuck hc
 have HK := tuck hkids
 clear ih hp hc h1 hok hroot hkids
 unfold maxLen at hl
 generalize (Tm.mk k n l).redex = R at *
 go_enter Try.func40, Try.ntmps40
 go_wp2_with fail
 have hx : (w.alloc (.cells #[.int .i64 k, .int .i64 n, .slice a l.length cap] 25)).cell? ⟨w.heap.size, 2, none⟩ = some (.slice a l.length cap) := by go_simp
 have hx0 : (w.alloc (.cells #[.int .i64 k, .int .i64 n, .slice a l.length cap] 25)).cell? ⟨w.heap.size, 0, none⟩ = some (.int .i64 k) := by go_simp
 have hx1 : (w.alloc (.cells #[.int .i64 k, .int .i64 n, .slice a l.length cap] 25)).cell? ⟨w.heap.size, 1, none⟩ = some (.int .i64 n) := by go_simp
 have hz1 : w.heap.size < (w.alloc (.cells #[.int .i64 k, .int .i64 n, .slice a l.length cap] 25)).heap.size := by simp
 have hb0 := below1 w (.cells #[.int .i64 k, .int .i64 n, .slice a l.length cap] 25)
 generalize (w.alloc (.cells #[.int .i64 k, .int .i64 n, .slice a l.length cap] 25)) = w1 at *
 have HBX := tuck hx
 have HBX0 := tuck hx0
 have HBX1 := tuck hx1
 have HB0 := tuck hb0
 clear hx hb0 hx0 hx1
 go_loopw [3] (fun i wr => ∃ q : Nat, q ≤ l.length ∧ i = .int .i64 q ∧ nfL l = nfL (l.drop q) ∧ Below w1.heap.size w1 wr) (fun i _ => l.length - (intOf i).toNat)
 case atStart => exact ⟨0, Nat.zero_le _, rfl, rfl, Below.refl _ _⟩
 case round =>
  obtain ⟨q, hq, rfl, ht, hb⟩ := hrel
  have hx : wr.cell? ⟨w.heap.size, 2, none⟩ = some (.slice a l.length cap) := (hb.cell (p := ⟨w.heap.size, 2, none⟩) hz1).trans HBX.out
  have hx0 : wr.cell? ⟨w.heap.size, 0, none⟩ = some (.int .i64 k) := (hb.cell (p := ⟨w.heap.size, 0, none⟩) hz1).trans HBX0.out
  have hx1 : wr.cell? ⟨w.heap.size, 1, none⟩ = some (.int .i64 n) := (hb.cell (p := ⟨w.heap.size, 1, none⟩) hz1).trans HBX1.out
  have hzr : w.heap.size < wr.heap.size := Nat.lt_of_lt_of_le hz1 hb.size
  by_cases hlt : q < l.length
  ·have hlti : ((q : Int) < (l.length : Int)) := by omega
   obtain ⟨rfl, _, hbw⟩ := HP.out (by intro e; rw [e] at hlt; simp at hlt)
   obtain ⟨s, c0, c1, c2, hs⟩ := HC.out q hlt
   obtain ⟨sa, sc, rfl⟩ := hs.form
   have hbb := bAfter HB0.out hb
   replace c0 := (hbb.cell (p := ⟨b, o + q * 3, none⟩) hbw).trans c0
   replace c1 := (hbb.cell (p := ⟨b, o + q * 3 + 1, none⟩) hbw).trans c1
   replace c2 := (hbb.cell (p := ⟨b, o + q * 3 + 2, none⟩) hbw).trans c2
   have hokq : l[q].allOk := (allsOk_iff l).1 HK.out _ (List.getElem_mem hlt)
   have hcall := HI.out q hlt l[q].kind l[q].num wr (.slice sa l[q].kids.length sc) (by rw [Tm.eta]; exact hokq) (hs.below hbb)
   rw [Tm.eta] at hcall
   have HT : Hid (nfL l = (l[q].nf && nfL (l.drop (q + 1)))) := tuck (by rw [ht, List.drop_eq_getElem_cons hlt, nfL])
   have HB := tuck hb
   have HBB := tuck hbb
   have HCALL := tuck hcall
   clear hb hbb ht hs HI hcall hokq
   generalize l[q] = x at *
   cases hn : x.nf with
   | false =>
    rw [hn] at HCALL HT
    clear hn
    have HF : Hid (nfL l = false) := tuck (by rw [HT.out, Bool.false_and])
    go_wp2_with fail
    refine HCALL.out.mono ?_
    rintro e w3 ⟨rfl, hb3⟩
    go_wp2_with fail
    go_ret
    exact ⟨by rw [HF.out, Bool.false_and]; rfl, bAfter HBB.out hb3⟩
   | true =>
    rw [hn] at HCALL HT
    clear hn
    go_wp2_with fail
    refine HCALL.out.mono ?_
    rintro e w3 ⟨rfl, hb3⟩
    go_wp2_with fail
    go_roundw
    case rel => exact ⟨q + 1, by omega, by go_num, by rw [HT.out, Bool.true_and], bAfter HB.out hb3⟩
    case measure => simp [intOf]; omega
  ·have hge2 : ¬ ((q : Int) < (l.length : Int)) := by omega
   have HBB := tuck (bAfter HB0.out hb)
   have hql : q = l.length := by omega
   subst hql
   have HF : Hid (nfL l = true) := tuck (by rw [ht, List.drop_length, nfL])
   clear hb ht HI
   go_wp2_with fail
   refine (HRED.out _ HBB.out).mono ?_
   rintro e w3 ⟨rfl, hb3⟩
   go_wp2_with fail
   go_ret
   exact ⟨by rw [HF.out, Bool.true_and]; rfl, bAfter HBB.out hb3⟩
set_option maxRecDepth 100000 in
theorem normalS_any (t : Tm) (w : World) (v : Value) (h : TmIn w 0 t v) : Calls Try.prog 21 #[v] w (BoolPost w (normalOf t)) := by
 obtain ⟨s, rfl, hs⟩ := h
 obtain ⟨a, c, rfl⟩ := hs.form
 have HS := tuck hs
 have HV : Hid (∀ (w : World), SlIn w 0 t.kids (.slice a t.kids.length c) → Calls Try.prog 14 #[.agg #[.int .i64 t.kind, .int .i64 t.num, .slice a t.kids.length c]] w (BoolPost w (tr t.Valid))) := fun w h => validS_any t w _ ⟨_, rfl, h⟩
 clear hs
 by_cases hv : t.Valid
 ·rw [tr_of hv] at HV
  have HR : Hid (∀ (w : World), SlIn w 0 t.kids (.slice a t.kids.length c) → Calls Try.prog 40 #[.agg #[.int .i64 t.kind, .int .i64 t.num, .slice a t.kids.length c]] w (BoolPost w (normalOf t))) := fun w h => by
   have h2 := nfS_any t.kids t.kind t.num w _ (by rw [Tm.eta]; exact hv.1) h
   rw [Tm.eta] at h2
   rwa [show t.nf = normalOf t by unfold normalOf; cases hn : t.nf <;> simp [tr, hv]] at h2
  clear hv
  generalize normalOf t = r at *
  go_enter Try.func21, Try.ntmps21
  go_wp2_with (first | (go_at_call 14; refine (HV.out _ (HS.out.below (below1 _ _))).mono ?_; rintro e w1 ⟨rfl, hb1⟩; obtain ⟨oc, of⟩ := old_cells hb1; have HB1 := tuck hb1; clear hb1) | (go_at_call 40; refine (HR.out _ (HS.out.below (bAfter (below1 _ _) HB1.out))).mono ?_; rintro e w2 ⟨rfl, hb2⟩))
  go_ret
  exact ⟨rfl, bAfter (bAfter (below1 _ _) HB1.out) hb2⟩
 ·rw [tr_not hv] at HV
  rw [show normalOf t = false from tr_not fun h => hv h.1]
  go_enter Try.func21, Try.ntmps21
  go_wp2_with (go_at_call 14; refine (HV.out _ (HS.out.below (below1 _ _))).mono ?_; rintro e w1 ⟨rfl, hb1⟩; obtain ⟨oc, of⟩ := old_cells hb1; have HB1 := tuck hb1; clear hb1)
  go_ret
  exact ⟨rfl, bAfter (below1 _ _) HB1.out⟩
set_option maxRecDepth 100000 in
theorem outside_any (w : World) : Calls Try.prog 38 #[] w fun e w' => e = .returned (.agg #[.bool false, .bool false]) ∧ Below w.heap.size w w' := by
 go_enter Try.func38, Try.ntmps38
 go_wp2_with fail
 refine bodyPost_ret (v := .agg #[.bool false, .bool false]) (by simp [results, Try.results38, go_sem, *]) rfl ⟨rfl, ?_⟩
 exact below1 _ _
set_option maxRecDepth 100000 in
set_option maxHeartbeats 1600000 in
theorem normalI_any (t : Tm) (w : World) (v : Value) (h : TmIn w 0 t v) : Calls Try.prog 19 #[v] w (BoolPost w (normalOf t)) := by
 obtain ⟨s, rfl, hs⟩ := h
 obtain ⟨a, c, rfl⟩ := hs.form
 have HS := tuck hs
 have HV : Hid (∀ (w : World), SlIn w 0 t.kids (.slice a t.kids.length c) → Calls Try.prog 12 #[.agg #[.int .i64 t.kind, .int .i64 t.num, .slice a t.kids.length c]] w (BoolPost w (tr t.Valid))) := fun w h => validI_any t w _ ⟨_, rfl, h⟩
 clear hs
 by_cases hv : t.Valid
 ·rw [tr_of hv] at HV
  have HF : Hid (∀ (W : World) (M : Nat → Prop) (g : Nat), Below w.heap.size w W → w.heap.size ≤ g → StackAt g [] M W → Calls Try.prog 39 #[.agg #[.bool false, .bool false], .agg #[.int .i64 t.kind, .int .i64 t.num, .slice a t.kids.length c], .pointer (some ⟨g, 0, none⟩)] W (FindPost w g 0 50 #[.slice none 0 0] [] M W t (.slice a t.kids.length c) (t.find false false))) := tuck fun W M g h1 h2 h3 => by
   have := find_any (u := w) g 0 _ _ false false t.kids t.kind t.num W [] M (.slice a t.kids.length c) (View.of_below h1 fun i hi => Nat.le_trans h2 (h3.lt i hi).1) h3 (by rw [Tm.eta]; exact hv.1) (by have := hv.2.1; have := t.hgt_eq; simp; omega) HS.out
   rwa [Tm.eta] at this
  have hN : normalOf t = (t.find false false).isNone := by rw [t.find_nf]; unfold normalOf; cases hn : t.nf <;> simp [tr, hv]
  rw [hN]
  clear hv hN
  go_enter Try.func19, Try.ntmps19
  go_wp2_with fail
  refine (HV.out _ (HS.out.below (below1 _ _))).mono ?_
  rintro e w1 ⟨rfl, hb1⟩
  have HV1 := tuck ((VarAt.new w t.kind t.num (.slice a t.kids.length c)).below hb1)
  have HB1 := tuck (bAfter (below1 _ _) hb1)
  clear hb1
  have HB2 := tuck (below1 w1 (.cells #[.slice none 0 0] 50))
  have HST : Hid (StackAt w1.heap.size [] (fun i => i = w1.heap.size ∨ (Value.slice none 0 0).ownBlock = some i) (w1.alloc (.cells #[.slice none 0 0] 50))) := tuck (StackAt.new w1)
  have HV2 := tuck (HV1.out.below HB2.out)
  obtain ⟨z0, c0, c1, c2, -⟩ := HV2.out.facts
  have HZ := tuck HB1.out.size
  go_wp2_with fail
  have HB := tuck (bAfter HB1.out HB2.out)
  have HM : Hid (∀ i, (i = w1.heap.size ∨ (Value.slice none 0 0).ownBlock = some i) → w.heap.size ≤ i) := tuck (by
   have := HZ.out
   rintro i (rfl | h)
   ·omega
   ·cases h)
  have HNB : Hid (∀ i, (w1.alloc (.cells #[.slice none 0 0] 50)).heap.size ≤ i → ¬ (i = w1.heap.size ∨ (Value.slice none 0 0).ownBlock = some i)) := tuck fun i h hm => by have := (HST.out.lt i hm).2; omega
  have HG : Hid (w.heap.size ≤ w1.heap.size) := tuck HB1.out.size
  clear HV HB1 HB2 HV1
  generalize (w1.alloc (.cells #[.slice none 0 0] 50)) = W2 at *
  generalize w1.heap.size = g at *
  cases hf : t.find false false with
  | none =>
   rw [hf] at HF
   have HFN := tuck hf
   clear hf
   go_region_with (first | (go_at_call 38; refine (outside_any _).mono ?_; rintro e w3 ⟨rfl, hb3⟩; (first | (have HBL : Hid (VarAt W2.heap.size 0 0 (.slice none 0 0) w3) := tuck ((VarAt.new W2.drew 0 0 (.slice none 0 0)).below hb3); have HB3 : Hid (Below W2.heap.size W2 w3) := tuck (bAfter (bAfter (Below.refl _ _).drew (below1 _ _)) hb3)) | (have HB3 : Hid (Below W2.heap.size W2 w3) := tuck (bAfter (Below.refl _ _).drew hb3))); obtain ⟨z3, d0, d1, d2, -⟩ := (HV2.out.below HB3.out).facts; clear hb3) | (go_at_call 39; (first | (have HBf : Hid (Below W2.heap.size W2 (w3.alloc (.cells #[.int .i64 0, .int .i64 0, .slice none 0 0] 25))) := tuck (bAfter HB3.out (below1 _ _)); have HBL := tuck (VarAt.new w3 0 0 (.slice none 0 0)); refine (HF.out _ _ g (bAfter HB.out HBf.out) HG.out (HST.out.below HBf.out)).mono ?_; rintro e w4 ⟨M4, hs4, rfl, hst4⟩; have HB4 : Hid (Below w.heap.size w w4) := tuck (hs4.below (bAfter HB.out HBf.out) (bAfter HB.out HBf.out).size HM.out); obtain ⟨z4, f0, f1, f2, f3⟩ := VarAt.facts ((hs4.block w3.heap.size HBL.out.facts.1 (HNB.out _ HB3.out.size)).trans HBL.out : VarAt w3.heap.size 0 0 (.slice none 0 0) w4); clear hs4) | (have HBLX : Hid (VarAt W2.heap.size 0 0 (.slice none 0 0) w3) := HBL; have HBf := tuck HB3.out; refine (HF.out _ _ g (bAfter HB.out HBf.out) HG.out (HST.out.below HBf.out)).mono ?_; rintro e w4 ⟨M4, hs4, rfl, hst4⟩; have HB4 : Hid (Below w.heap.size w w4) := tuck (hs4.below (bAfter HB.out HBf.out) (bAfter HB.out HBf.out).size HM.out); obtain ⟨z4, f0, f1, f2, f3⟩ := VarAt.facts ((hs4.block W2.heap.size HBL.out.facts.1 (HNB.out _ (Nat.le_refl _))).trans HBL.out : VarAt W2.heap.size 0 0 (.slice none 0 0) w4); clear hs4) | (have HBf := tuck HB3.out; refine (HF.out _ _ g (bAfter HB.out HBf.out) HG.out (HST.out.below HBf.out)).mono ?_; rintro e w4 ⟨M4, hs4, rfl, hst4⟩; have HB4 : Hid (Below w.heap.size w w4) := tuck (hs4.below (bAfter HB.out HBf.out) (bAfter HB.out HBf.out).size HM.out); clear hs4))))
   all_goals go_wp2_with fail
   all_goals go_ret
   all_goals first | exact ⟨by rw [HFN.out]; rfl, bAfter HB4.out (below1 _ _)⟩ | exact ⟨by rw [HFN.out]; rfl, bSet3 HB4.out (Nat.le_trans HB.out.size (Nat.le_refl _)) _ _ _ _ _ _⟩ | exact ⟨by rw [HFN.out]; rfl, bSet3 HB4.out (Nat.le_trans HB.out.size HB3.out.size) _ _ _ _ _ _⟩
  | some y =>
   obtain ⟨p, y⟩ := y
   rw [hf] at HF
   have HFN := tuck hf
   clear hf
   go_region_with (first | (go_at_call 38; refine (outside_any _).mono ?_; rintro e w3 ⟨rfl, hb3⟩; (first | (have HBL : Hid (VarAt W2.heap.size 0 0 (.slice none 0 0) w3) := tuck ((VarAt.new W2.drew 0 0 (.slice none 0 0)).below hb3); have HB3 : Hid (Below W2.heap.size W2 w3) := tuck (bAfter (bAfter (Below.refl _ _).drew (below1 _ _)) hb3)) | (have HB3 : Hid (Below W2.heap.size W2 w3) := tuck (bAfter (Below.refl _ _).drew hb3))); obtain ⟨z3, d0, d1, d2, -⟩ := (HV2.out.below HB3.out).facts; clear hb3) | (go_at_call 39; (first | (have HBf : Hid (Below W2.heap.size W2 (w3.alloc (.cells #[.int .i64 0, .int .i64 0, .slice none 0 0] 25))) := tuck (bAfter HB3.out (below1 _ _)); have HBL := tuck (VarAt.new w3 0 0 (.slice none 0 0)); refine (HF.out _ _ g (bAfter HB.out HBf.out) HG.out (HST.out.below HBf.out)).mono ?_; rintro e w4 ⟨M4, hs4, sx, qs, rfl, hsx, hst4, hpass⟩; obtain ⟨xa, xc, rfl⟩ := hsx.form; clear hpass; have HB4 : Hid (Below w.heap.size w w4) := tuck (hs4.below (bAfter HB.out HBf.out) (bAfter HB.out HBf.out).size HM.out); obtain ⟨z4, f0, f1, f2, f3⟩ := VarAt.facts ((hs4.block w3.heap.size HBL.out.facts.1 (HNB.out _ HB3.out.size)).trans HBL.out : VarAt w3.heap.size 0 0 (.slice none 0 0) w4); clear hs4) | (have HBLX : Hid (VarAt W2.heap.size 0 0 (.slice none 0 0) w3) := HBL; have HBf := tuck HB3.out; refine (HF.out _ _ g (bAfter HB.out HBf.out) HG.out (HST.out.below HBf.out)).mono ?_; rintro e w4 ⟨M4, hs4, sx, qs, rfl, hsx, hst4, hpass⟩; obtain ⟨xa, xc, rfl⟩ := hsx.form; clear hpass; have HB4 : Hid (Below w.heap.size w w4) := tuck (hs4.below (bAfter HB.out HBf.out) (bAfter HB.out HBf.out).size HM.out); obtain ⟨z4, f0, f1, f2, f3⟩ := VarAt.facts ((hs4.block W2.heap.size HBL.out.facts.1 (HNB.out _ (Nat.le_refl _))).trans HBL.out : VarAt W2.heap.size 0 0 (.slice none 0 0) w4); clear hs4) | (have HBf := tuck HB3.out; refine (HF.out _ _ g (bAfter HB.out HBf.out) HG.out (HST.out.below HBf.out)).mono ?_; rintro e w4 ⟨M4, hs4, sx, qs, rfl, hsx, hst4, hpass⟩; obtain ⟨xa, xc, rfl⟩ := hsx.form; clear hpass; have HB4 : Hid (Below w.heap.size w w4) := tuck (hs4.below (bAfter HB.out HBf.out) (bAfter HB.out HBf.out).size HM.out); clear hs4))))
   all_goals go_wp2_with fail
   all_goals go_ret
   all_goals first | exact ⟨by rw [HFN.out]; rfl, bAfter HB4.out (below1 _ _)⟩ | exact ⟨by rw [HFN.out]; rfl, bSet3 HB4.out (Nat.le_trans HB.out.size (Nat.le_refl _)) _ _ _ _ _ _⟩ | exact ⟨by rw [HFN.out]; rfl, bSet3 HB4.out (Nat.le_trans HB.out.size HB3.out.size) _ _ _ _ _ _⟩
 ·rw [tr_not hv] at HV
  rw [show normalOf t = false from tr_not fun h => hv h.1]
  go_enter Try.func19, Try.ntmps19
  go_wp2_with (go_at_call 12; refine (HV.out _ (HS.out.below (below1 _ _))).mono ?_; rintro e w1 ⟨rfl, hb1⟩; obtain ⟨oc, of⟩ := old_cells hb1; have HB1 := tuck hb1; clear hb1)
  go_ret
  exact ⟨rfl, bAfter (below1 _ _) HB1.out⟩
end Go.Proofs.Ytmgoajgjpgamcaa
