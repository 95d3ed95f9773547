/-
  Norm.
-/
import Derived.Test.YtihlbbbajaepoaaGreatQ02
import Derived.Test.YtihlbbbajaepoaaGreatQ04
import Derived.Test.YtihlbbbajaepoaaGreatQ21
namespace Go.Proofs.YtihlbbbajaepoaaGreat
open Go.RowKit
mutual
def Tm.nf : Tm → Bool
 | .mk k n l => nfL l && ((Tm.mk k n l).redex == 0)
def nfL : List Tm → Bool
 | [] => true
 | t :: l => t.nf && nfL l
end
mutual
theorem Tm.find_nf : ∀ t : Tm, (t.find false false).isNone = t.nf
 | .mk k n l => by
  rw [Tm.find, Tm.nf]
  have h := findL_nf (.mk k n l) l 0
  by_cases hr : (Tm.mk k n l).redex = 0
  ·rw [if_neg (by simp [hr]), ← h]
   cases findL false false (.mk k n l) l 0 <;> simp [hr]
  ·rw [if_pos ⟨hr, rfl⟩]
   simp [hr]
theorem findL_nf (t0 : Tm) : ∀ (l : List Tm) (i : Nat), (findL false false t0 l i).isNone = nfL l
 | [], _ => by rw [findL, nfL]; rfl
 | t :: l, i => by
  rw [findL, nfL, ← Tm.find_nf t, ← findL_nf t0 l (i + 1), if_neg (by simp)]
  cases t.find false false <;> rfl
end
noncomputable def normalOf (t : Tm) : Bool := tr (t.Valid ∧ t.nf = true)
set_option maxRecDepth 100000 in
theorem outside_any (w : World) : Calls Tryz.prog 88 #[] w fun e w' => e = .returned (.agg #[.bool false, .bool false]) ∧ Below w.heap.size w w' := by
 go_enter Tryz.func88, Tryz.ntmps88
 go_wp2_with fail
 refine bodyPost_ret (v := .agg #[.bool false, .bool false]) (by simp [results, Tryz.results88, go_sem, *]) rfl ⟨rfl, ?_⟩
 exact below1 _ _
set_option maxRecDepth 100000 in
set_option maxHeartbeats 1600000 in
theorem normalI_any (t : Tm) (w : World) (v : Value) (h : TmIn w 0 t v) : Calls Tryz.prog 41 #[v] w (BoolPost w (normalOf t)) := by
 obtain ⟨s, rfl, hs⟩ := h
 obtain ⟨a, c, rfl⟩ := hs.form
 have HS := tuck hs
 have HV : Hid (∀ (w : World), SlIn w 0 t.kids (.slice a t.kids.length c) → Calls Tryz.prog 42 #[.agg #[.int .i64 t.kind, .int .i64 t.num, .slice a t.kids.length c]] w (BoolPost w (tr t.Valid))) := fun w h => validI_any t w _ ⟨_, rfl, h⟩
 clear hs
 by_cases hv : t.Valid
 ·rw [tr_of hv] at HV
  have HF : Hid (∀ (W : World) (M : Nat → Prop) (g : Nat), Below w.heap.size w W → w.heap.size ≤ g → StackAt g [] M W → Calls Tryz.prog 89 #[.agg #[.bool false, .bool false], .agg #[.int .i64 t.kind, .int .i64 t.num, .slice a t.kids.length c], .pointer (some ⟨g, 0, none⟩)] W (FindPost w g 0 92 #[.slice none 0 0] [] M W t (.slice a t.kids.length c) (t.find false false))) := tuck fun W M g h1 h2 h3 => by
   have := find_any (u := w) g 0 _ _ false false t.kids t.kind t.num W [] M (.slice a t.kids.length c) (View.of_below h1 fun i hi => Nat.le_trans h2 (h3.lt i hi).1) h3 (by rw [Tm.eta]; exact hv.1) (by have := hv.2.1; have := t.hgt_eq; simp; omega) HS.out
   rwa [Tm.eta] at this
  have hN : normalOf t = (t.find false false).isNone := by rw [t.find_nf]; unfold normalOf; cases hn : t.nf <;> simp [tr, hv]
  rw [hN]
  clear hv hN
  go_enter Tryz.func41, Tryz.ntmps41
  go_wp2_with fail
  refine (HV.out _ (HS.out.below (below1 _ _))).mono ?_
  rintro e w1 ⟨rfl, hb1⟩
  have HV1 := tuck ((VarAt.new w t.kind t.num (.slice a t.kids.length c)).below hb1)
  have HB1 := tuck (bAfter (below1 _ _) hb1)
  clear hb1
  have HB2 := tuck (below1 w1 (.cells #[.slice none 0 0] 92))
  have HST : Hid (StackAt w1.heap.size [] (fun i => i = w1.heap.size ∨ (Value.slice none 0 0).ownBlock = some i) (w1.alloc (.cells #[.slice none 0 0] 92))) := tuck (StackAt.new w1)
  have HV2 := tuck (HV1.out.below HB2.out)
  obtain ⟨z0, c0, c1, c2, -⟩ := HV2.out.facts
  have HZ := tuck HB1.out.size
  go_wp2_with fail
  have HB := tuck (bAfter HB1.out HB2.out)
  have HM : Hid (∀ i, (i = w1.heap.size ∨ (Value.slice none 0 0).ownBlock = some i) → w.heap.size ≤ i) := tuck (by
   have := HZ.out
   rintro i (rfl | h)
   ·omega
   ·cases h)
  have HNB : Hid (∀ i, (w1.alloc (.cells #[.slice none 0 0] 92)).heap.size ≤ i → ¬ (i = w1.heap.size ∨ (Value.slice none 0 0).ownBlock = some i)) := tuck fun i h hm => by have := (HST.out.lt i hm).2; omega
  have HG : Hid (w.heap.size ≤ w1.heap.size) := tuck HB1.out.size
  clear HV HB1 HB2 HV1
  generalize (w1.alloc (.cells #[.slice none 0 0] 92)) = W2 at *
  generalize w1.heap.size = g at *
  cases hf : t.find false false with
  | none =>
   rw [hf] at HF
   have HFN := tuck hf
   clear hf
   go_region_with (first | (go_at_call 88; refine (outside_any _).mono ?_; rintro e w3 ⟨rfl, hb3⟩; (first | (have HBL : Hid (VarAt W2.heap.size 0 0 (.slice none 0 0) w3) := tuck ((VarAt.new W2.drew 0 0 (.slice none 0 0)).below hb3); have HB3 : Hid (Below W2.heap.size W2 w3) := tuck (bAfter (bAfter (Below.refl _ _).drew (below1 _ _)) hb3)) | (have HB3 : Hid (Below W2.heap.size W2 w3) := tuck (bAfter (Below.refl _ _).drew hb3))); obtain ⟨z3, d0, d1, d2, -⟩ := (HV2.out.below HB3.out).facts; clear hb3) | (go_at_call 89; (first | (have HBf : Hid (Below W2.heap.size W2 (w3.alloc (.cells #[.int .i64 0, .int .i64 0, .slice none 0 0] 34))) := tuck (bAfter HB3.out (below1 _ _)); have HBL := tuck (VarAt.new w3 0 0 (.slice none 0 0)); refine (HF.out _ _ g (bAfter HB.out HBf.out) HG.out (HST.out.below HBf.out)).mono ?_; rintro e w4 ⟨M4, hs4, rfl, hst4⟩; have HB4 : Hid (Below w.heap.size w w4) := tuck (hs4.below (bAfter HB.out HBf.out) (bAfter HB.out HBf.out).size HM.out); obtain ⟨z4, f0, f1, f2, f3⟩ := VarAt.facts ((hs4.block w3.heap.size HBL.out.facts.1 (HNB.out _ HB3.out.size)).trans HBL.out : VarAt w3.heap.size 0 0 (.slice none 0 0) w4); clear hs4) | (have HBLX : Hid (VarAt W2.heap.size 0 0 (.slice none 0 0) w3) := HBL; have HBf := tuck HB3.out; refine (HF.out _ _ g (bAfter HB.out HBf.out) HG.out (HST.out.below HBf.out)).mono ?_; rintro e w4 ⟨M4, hs4, rfl, hst4⟩; have HB4 : Hid (Below w.heap.size w w4) := tuck (hs4.below (bAfter HB.out HBf.out) (bAfter HB.out HBf.out).size HM.out); obtain ⟨z4, f0, f1, f2, f3⟩ := VarAt.facts ((hs4.block W2.heap.size HBL.out.facts.1 (HNB.out _ (Nat.le_refl _))).trans HBL.out : VarAt W2.heap.size 0 0 (.slice none 0 0) w4); clear hs4) | (have HBf := tuck HB3.out; refine (HF.out _ _ g (bAfter HB.out HBf.out) HG.out (HST.out.below HBf.out)).mono ?_; rintro e w4 ⟨M4, hs4, rfl, hst4⟩; have HB4 : Hid (Below w.heap.size w w4) := tuck (hs4.below (bAfter HB.out HBf.out) (bAfter HB.out HBf.out).size HM.out); clear hs4))))
   all_goals go_wp2_with fail
   all_goals go_ret
   all_goals first | exact ⟨by rw [HFN.out]; rfl, bAfter HB4.out (below1 _ _)⟩ | exact ⟨by rw [HFN.out]; rfl, bSet3 HB4.out (Nat.le_trans HB.out.size (Nat.le_refl _)) _ _ _ _ _ _⟩ | exact ⟨by rw [HFN.out]; rfl, bSet3 HB4.out (Nat.le_trans HB.out.size HB3.out.size) _ _ _ _ _ _⟩
  | some y =>
   obtain ⟨p, y⟩ := y
   rw [hf] at HF
   have HFN := tuck hf
   clear hf
   go_region_with (first | (go_at_call 88; refine (outside_any _).mono ?_; rintro e w3 ⟨rfl, hb3⟩; (first | (have HBL : Hid (VarAt W2.heap.size 0 0 (.slice none 0 0) w3) := tuck ((VarAt.new W2.drew 0 0 (.slice none 0 0)).below hb3); have HB3 : Hid (Below W2.heap.size W2 w3) := tuck (bAfter (bAfter (Below.refl _ _).drew (below1 _ _)) hb3)) | (have HB3 : Hid (Below W2.heap.size W2 w3) := tuck (bAfter (Below.refl _ _).drew hb3))); obtain ⟨z3, d0, d1, d2, -⟩ := (HV2.out.below HB3.out).facts; clear hb3) | (go_at_call 89; (first | (have HBf : Hid (Below W2.heap.size W2 (w3.alloc (.cells #[.int .i64 0, .int .i64 0, .slice none 0 0] 34))) := tuck (bAfter HB3.out (below1 _ _)); have HBL := tuck (VarAt.new w3 0 0 (.slice none 0 0)); refine (HF.out _ _ g (bAfter HB.out HBf.out) HG.out (HST.out.below HBf.out)).mono ?_; rintro e w4 ⟨M4, hs4, sx, qs, rfl, hsx, hst4, hpass⟩; obtain ⟨xa, xc, rfl⟩ := hsx.form; clear hpass; have HB4 : Hid (Below w.heap.size w w4) := tuck (hs4.below (bAfter HB.out HBf.out) (bAfter HB.out HBf.out).size HM.out); obtain ⟨z4, f0, f1, f2, f3⟩ := VarAt.facts ((hs4.block w3.heap.size HBL.out.facts.1 (HNB.out _ HB3.out.size)).trans HBL.out : VarAt w3.heap.size 0 0 (.slice none 0 0) w4); clear hs4) | (have HBLX : Hid (VarAt W2.heap.size 0 0 (.slice none 0 0) w3) := HBL; have HBf := tuck HB3.out; refine (HF.out _ _ g (bAfter HB.out HBf.out) HG.out (HST.out.below HBf.out)).mono ?_; rintro e w4 ⟨M4, hs4, sx, qs, rfl, hsx, hst4, hpass⟩; obtain ⟨xa, xc, rfl⟩ := hsx.form; clear hpass; have HB4 : Hid (Below w.heap.size w w4) := tuck (hs4.below (bAfter HB.out HBf.out) (bAfter HB.out HBf.out).size HM.out); obtain ⟨z4, f0, f1, f2, f3⟩ := VarAt.facts ((hs4.block W2.heap.size HBL.out.facts.1 (HNB.out _ (Nat.le_refl _))).trans HBL.out : VarAt W2.heap.size 0 0 (.slice none 0 0) w4); clear hs4) | (have HBf := tuck HB3.out; refine (HF.out _ _ g (bAfter HB.out HBf.out) HG.out (HST.out.below HBf.out)).mono ?_; rintro e w4 ⟨M4, hs4, sx, qs, rfl, hsx, hst4, hpass⟩; obtain ⟨xa, xc, rfl⟩ := hsx.form; clear hpass; have HB4 : Hid (Below w.heap.size w w4) := tuck (hs4.below (bAfter HB.out HBf.out) (bAfter HB.out HBf.out).size HM.out); clear hs4))))
   all_goals go_wp2_with fail
   all_goals go_ret
   all_goals first | exact ⟨by rw [HFN.out]; rfl, bAfter HB4.out (below1 _ _)⟩ | exact ⟨by rw [HFN.out]; rfl, bSet3 HB4.out (Nat.le_trans HB.out.size (Nat.le_refl _)) _ _ _ _ _ _⟩ | exact ⟨by rw [HFN.out]; rfl, bSet3 HB4.out (Nat.le_trans HB.out.size HB3.out.size) _ _ _ _ _ _⟩
 ·rw [tr_not hv] at HV
  rw [show normalOf t = false from tr_not fun h => hv h.1]
  go_enter Tryz.func41, Tryz.ntmps41
  go_wp2_with (go_at_call 42; refine (HV.out _ (HS.out.below (below1 _ _))).mono ?_; rintro e w1 ⟨rfl, hb1⟩; obtain ⟨oc, of⟩ := old_cells hb1; have HB1 := tuck hb1; clear hb1)
  go_ret
  exact ⟨rfl, bAfter (below1 _ _) HB1.out⟩
end Go.Proofs.YtihlbbbajaepoaaGreat
