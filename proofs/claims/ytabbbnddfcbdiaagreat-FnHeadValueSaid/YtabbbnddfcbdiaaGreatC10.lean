/-
  Norm, NodeX, TextB.
-/
import Derived.Test.YtabbbnddfcbdiaaGreatB03
import Derived.Test.YtabbbnddfcbdiaaGreatB05
import Derived.Test.YtabbbnddfcbdiaaGreatC02
import Derived.Test.YtabbbnddfcbdiaaGreatC03
import Derived.Test.YtabbbnddfcbdiaaGreatC09
namespace Go.Proofs.YtabbbnddfcbdiaaGreat
open Go.RowKit
mutual
def Tm.nf : Tm → Bool
 | .mk k n l => nfL l && ((Tm.mk k n l).redex == 0)
def nfL : List Tm → Bool
 | [] => true
 | t :: l => t.nf && nfL l
end
mutual
theorem Tm.find_nf : ∀ t : Tm, (t.find false false).isNone = t.nf
 | .mk k n l => by
  rw [Tm.find, Tm.nf]
  have h := findL_nf (.mk k n l) l 0
  by_cases hr : (Tm.mk k n l).redex = 0
  ·rw [if_neg (by simp [hr]), ← h]
   cases findL false false (.mk k n l) l 0 <;> simp [hr]
  ·rw [if_pos ⟨hr, rfl⟩]
   simp [hr]
theorem findL_nf (t0 : Tm) : ∀ (l : List Tm) (i : Nat), (findL false false t0 l i).isNone = nfL l
 | [], _ => by rw [findL, nfL]; rfl
 | t :: l, i => by
  rw [findL, nfL, ← Tm.find_nf t, ← findL_nf t0 l (i + 1), if_neg (by simp)]
  cases t.find false false <;> rfl
end
noncomputable def normalOf (t : Tm) : Bool := tr (t.Valid ∧ t.nf = true)
set_option maxRecDepth 100000 in
theorem outside_any (w : World) : Calls Tryz.prog 49 #[] w fun e w' => e = .returned (.agg #[.bool false, .bool false]) ∧ Below w.heap.size w w' := by
 go_enter Tryz.func49, Tryz.ntmps49
 go_wp2_with fail
 refine bodyPost_ret (v := .agg #[.bool false, .bool false]) (by simp [results, Tryz.results49, go_sem, *]) rfl ⟨rfl, ?_⟩
 exact below1 _ _
set_option maxRecDepth 100000 in
set_option maxHeartbeats 1600000 in
theorem normalI_any (t : Tm) (w : World) (v : Value) (h : TmIn w 0 t v) : Calls Tryz.prog 22 #[v] w (BoolPost w (normalOf t)) := by
 obtain ⟨s, rfl, hs⟩ := h
 obtain ⟨a, c, rfl⟩ := hs.form
 have HS := tuck hs
 have HV : Hid (∀ (w : World), SlIn w 0 t.kids (.slice a t.kids.length c) → Calls Tryz.prog 54 #[.agg #[.int .i64 t.kind, .int .i64 t.num, .slice a t.kids.length c]] w (BoolPost w (tr t.Valid))) := fun w h => validI_any t w _ ⟨_, rfl, h⟩
 clear hs
 by_cases hv : t.Valid
 ·rw [tr_of hv] at HV
  have HF : Hid (∀ (W : World) (M : Nat → Prop) (g : Nat), Below w.heap.size w W → w.heap.size ≤ g → StackAt g [] M W → Calls Tryz.prog 58 #[.agg #[.bool false, .bool false], .agg #[.int .i64 t.kind, .int .i64 t.num, .slice a t.kids.length c], .pointer (some ⟨g, 0, none⟩)] W (FindPost w g 0 55 #[.slice none 0 0] [] M W t (.slice a t.kids.length c) (t.find false false))) := tuck fun W M g h1 h2 h3 => by
   have := find_any (u := w) g 0 _ _ false false t.kids t.kind t.num W [] M (.slice a t.kids.length c) (View.of_below h1 fun i hi => Nat.le_trans h2 (h3.lt i hi).1) h3 (by rw [Tm.eta]; exact hv.1) (by have := hv.2.1; have := t.hgt_eq; simp; omega) HS.out
   rwa [Tm.eta] at this
  have hN : normalOf t = (t.find false false).isNone := by rw [t.find_nf]; unfold normalOf; cases hn : t.nf <;> simp [tr, hv]
  rw [hN]
  clear hv hN
  go_enter Tryz.func22, Tryz.ntmps22
  go_wp2_with fail
  refine (HV.out _ (HS.out.below (below1 _ _))).mono ?_
  rintro e w1 ⟨rfl, hb1⟩
  have HV1 := tuck ((VarAt.new w t.kind t.num (.slice a t.kids.length c)).below hb1)
  have HB1 := tuck (bAfter (below1 _ _) hb1)
  clear hb1
  have HB2 := tuck (below1 w1 (.cells #[.slice none 0 0] 55))
  have HST : Hid (StackAt w1.heap.size [] (fun i => i = w1.heap.size ∨ (Value.slice none 0 0).ownBlock = some i) (w1.alloc (.cells #[.slice none 0 0] 55))) := tuck (StackAt.new w1)
  have HV2 := tuck (HV1.out.below HB2.out)
  obtain ⟨z0, c0, c1, c2, -⟩ := HV2.out.facts
  have HZ := tuck HB1.out.size
  go_wp2_with fail
  have HB := tuck (bAfter HB1.out HB2.out)
  have HM : Hid (∀ i, (i = w1.heap.size ∨ (Value.slice none 0 0).ownBlock = some i) → w.heap.size ≤ i) := tuck (by
   have := HZ.out
   rintro i (rfl | h)
   ·omega
   ·cases h)
  have HNB : Hid (∀ i, (w1.alloc (.cells #[.slice none 0 0] 55)).heap.size ≤ i → ¬ (i = w1.heap.size ∨ (Value.slice none 0 0).ownBlock = some i)) := tuck fun i h hm => by have := (HST.out.lt i hm).2; omega
  have HG : Hid (w.heap.size ≤ w1.heap.size) := tuck HB1.out.size
  clear HV HB1 HB2 HV1
  generalize (w1.alloc (.cells #[.slice none 0 0] 55)) = W2 at *
  generalize w1.heap.size = g at *
  cases hf : t.find false false with
  | none =>
   rw [hf] at HF
   have HFN := tuck hf
   clear hf
   go_region_with (first | (go_at_call 49; refine (outside_any _).mono ?_; rintro e w3 ⟨rfl, hb3⟩; (first | (have HBL : Hid (VarAt W2.heap.size 0 0 (.slice none 0 0) w3) := tuck ((VarAt.new W2.drew 0 0 (.slice none 0 0)).below hb3); have HB3 : Hid (Below W2.heap.size W2 w3) := tuck (bAfter (bAfter (Below.refl _ _).drew (below1 _ _)) hb3)) | (have HB3 : Hid (Below W2.heap.size W2 w3) := tuck (bAfter (Below.refl _ _).drew hb3))); obtain ⟨z3, d0, d1, d2, -⟩ := (HV2.out.below HB3.out).facts; clear hb3) | (go_at_call 58; (first | (have HBf : Hid (Below W2.heap.size W2 (w3.alloc (.cells #[.int .i64 0, .int .i64 0, .slice none 0 0] 25))) := tuck (bAfter HB3.out (below1 _ _)); have HBL := tuck (VarAt.new w3 0 0 (.slice none 0 0)); refine (HF.out _ _ g (bAfter HB.out HBf.out) HG.out (HST.out.below HBf.out)).mono ?_; rintro e w4 ⟨M4, hs4, rfl, hst4⟩; have HB4 : Hid (Below w.heap.size w w4) := tuck (hs4.below (bAfter HB.out HBf.out) (bAfter HB.out HBf.out).size HM.out); obtain ⟨z4, f0, f1, f2, f3⟩ := VarAt.facts ((hs4.block w3.heap.size HBL.out.facts.1 (HNB.out _ HB3.out.size)).trans HBL.out : VarAt w3.heap.size 0 0 (.slice none 0 0) w4); clear hs4) | (have HBLX : Hid (VarAt W2.heap.size 0 0 (.slice none 0 0) w3) := HBL; have HBf := tuck HB3.out; refine (HF.out _ _ g (bAfter HB.out HBf.out) HG.out (HST.out.below HBf.out)).mono ?_; rintro e w4 ⟨M4, hs4, rfl, hst4⟩; have HB4 : Hid (Below w.heap.size w w4) := tuck (hs4.below (bAfter HB.out HBf.out) (bAfter HB.out HBf.out).size HM.out); obtain ⟨z4, f0, f1, f2, f3⟩ := VarAt.facts ((hs4.block W2.heap.size HBL.out.facts.1 (HNB.out _ (Nat.le_refl _))).trans HBL.out : VarAt W2.heap.size 0 0 (.slice none 0 0) w4); clear hs4) | (have HBf := tuck HB3.out; refine (HF.out _ _ g (bAfter HB.out HBf.out) HG.out (HST.out.below HBf.out)).mono ?_; rintro e w4 ⟨M4, hs4, rfl, hst4⟩; have HB4 : Hid (Below w.heap.size w w4) := tuck (hs4.below (bAfter HB.out HBf.out) (bAfter HB.out HBf.out).size HM.out); clear hs4))))
   all_goals go_wp2_with fail
   all_goals go_ret
   all_goals first | exact ⟨by rw [HFN.out]; rfl, bAfter HB4.out (below1 _ _)⟩ | exact ⟨by rw [HFN.out]; rfl, bSet3 HB4.out (Nat.le_trans HB.out.size (Nat.le_refl _)) _ _ _ _ _ _⟩ | exact ⟨by rw [HFN.out]; rfl, bSet3 HB4.out (Nat.le_trans HB.out.size HB3.out.size) _ _ _ _ _ _⟩
  | some y =>
   obtain ⟨p, y⟩ := y
   rw [hf] at HF
   have HFN := tuck hf
   clear hf
   go_region_with (first | (go_at_call 49; refine (outside_any _).mono ?_; rintro e w3 ⟨rfl, hb3⟩; (first | (have HBL : Hid (VarAt W2.heap.size 0 0 (.slice none 0 0) w3) := tuck ((VarAt.new W2.drew 0 0 (.slice none 0 0)).below hb3); have HB3 : Hid (Below W2.heap.size W2 w3) := tuck (bAfter (bAfter (Below.refl _ _).drew (below1 _ _)) hb3)) | (have HB3 : Hid (Below W2.heap.size W2 w3) := tuck (bAfter (Below.refl _ _).drew hb3))); obtain ⟨z3, d0, d1, d2, -⟩ := (HV2.out.below HB3.out).facts; clear hb3) | (go_at_call 58; (first | (have HBf : Hid (Below W2.heap.size W2 (w3.alloc (.cells #[.int .i64 0, .int .i64 0, .slice none 0 0] 25))) := tuck (bAfter HB3.out (below1 _ _)); have HBL := tuck (VarAt.new w3 0 0 (.slice none 0 0)); refine (HF.out _ _ g (bAfter HB.out HBf.out) HG.out (HST.out.below HBf.out)).mono ?_; rintro e w4 ⟨M4, hs4, sx, qs, rfl, hsx, hst4, hpass⟩; obtain ⟨xa, xc, rfl⟩ := hsx.form; clear hpass; have HB4 : Hid (Below w.heap.size w w4) := tuck (hs4.below (bAfter HB.out HBf.out) (bAfter HB.out HBf.out).size HM.out); obtain ⟨z4, f0, f1, f2, f3⟩ := VarAt.facts ((hs4.block w3.heap.size HBL.out.facts.1 (HNB.out _ HB3.out.size)).trans HBL.out : VarAt w3.heap.size 0 0 (.slice none 0 0) w4); clear hs4) | (have HBLX : Hid (VarAt W2.heap.size 0 0 (.slice none 0 0) w3) := HBL; have HBf := tuck HB3.out; refine (HF.out _ _ g (bAfter HB.out HBf.out) HG.out (HST.out.below HBf.out)).mono ?_; rintro e w4 ⟨M4, hs4, sx, qs, rfl, hsx, hst4, hpass⟩; obtain ⟨xa, xc, rfl⟩ := hsx.form; clear hpass; have HB4 : Hid (Below w.heap.size w w4) := tuck (hs4.below (bAfter HB.out HBf.out) (bAfter HB.out HBf.out).size HM.out); obtain ⟨z4, f0, f1, f2, f3⟩ := VarAt.facts ((hs4.block W2.heap.size HBL.out.facts.1 (HNB.out _ (Nat.le_refl _))).trans HBL.out : VarAt W2.heap.size 0 0 (.slice none 0 0) w4); clear hs4) | (have HBf := tuck HB3.out; refine (HF.out _ _ g (bAfter HB.out HBf.out) HG.out (HST.out.below HBf.out)).mono ?_; rintro e w4 ⟨M4, hs4, sx, qs, rfl, hsx, hst4, hpass⟩; obtain ⟨xa, xc, rfl⟩ := hsx.form; clear hpass; have HB4 : Hid (Below w.heap.size w w4) := tuck (hs4.below (bAfter HB.out HBf.out) (bAfter HB.out HBf.out).size HM.out); clear hs4))))
   all_goals go_wp2_with fail
   all_goals go_ret
   all_goals first | exact ⟨by rw [HFN.out]; rfl, bAfter HB4.out (below1 _ _)⟩ | exact ⟨by rw [HFN.out]; rfl, bSet3 HB4.out (Nat.le_trans HB.out.size (Nat.le_refl _)) _ _ _ _ _ _⟩ | exact ⟨by rw [HFN.out]; rfl, bSet3 HB4.out (Nat.le_trans HB.out.size HB3.out.size) _ _ _ _ _ _⟩
 ·rw [tr_not hv] at HV
  rw [show normalOf t = false from tr_not fun h => hv h.1]
  go_enter Tryz.func22, Tryz.ntmps22
  go_wp2_with (go_at_call 54; refine (HV.out _ (HS.out.below (below1 _ _))).mono ?_; rintro e w1 ⟨rfl, hb1⟩; obtain ⟨oc, of⟩ := old_cells hb1; have HB1 := tuck hb1; clear hb1)
  go_ret
  exact ⟨rfl, bAfter (below1 _ _) HB1.out⟩
end Go.Proofs.YtabbbnddfcbdiaaGreat
namespace Go.Proofs.YtabbbnddfcbdiaaGreat
open Go.RowKit
def NodeR (k : Int) (r : List (Tm × Value)) (w : World) (e : Ending) (w' : World) : Prop := Below w.heap.size w w' ∧ ∃ g c, e = .returned (.agg #[.int .i64 k, .int .i64 0, .slice (some ⟨g, 0, none⟩) r.length c]) ∧ w.heap.size < g ∧ ∀ j u, (cellsL r)[j]? = some u → w'.cell? ⟨g, j, none⟩ = some u
set_option maxRecDepth 100000 in
theorem nodeR_any (k : Int) (r : List (Tm × Value)) (w : World) (b o cap : Nat) (hne : r ≠ []) (hl : r.length ≤ 100000) (hcell : ∀ j u, (cellsL r)[j]? = some u → w.cell? ⟨b, o + j, none⟩ = some u) (hin : ∀ u ∈ cellsL r, u.oneCell' = true) :
  Calls Tryz.prog 82 #[.int .i64 k, .slice (some ⟨b, o, none⟩) r.length cap] w (NodeR k r w) := by
 obtain ⟨i0, hi, hz0, hz1, hz2⟩ := info_parts info_term'
 have HC := tuck hcell
 have HIN := tuck hin
 have HI := tuck hi
 have HZ0 := tuck hz0
 have HZ1 := tuck hz1
 have HZ2 := tuck hz2
 clear hcell hin hi hz0 hz1 hz2
 go_enter Tryz.func82, Tryz.ntmps82
 have hlt : b < w.heap.size := by
  cases r with
  | nil => exact absurd rfl hne
  | cons x r => exact World.block_lt_of_cell? w _ (HC.out 0 _ rfl)
 go_wp2_with (at_builtin; refine wpList_append_own _ rfl (.tmp 6) (.tmp 7) 23 rfl (w.heap.size + 1) 25 i0 _ 3 40 Tryz.underlying23 HI.out HZ0.out HZ1.out HZ2.out rfl (by decide) (.slice (some ⟨w.heap.size + 1, 0, none⟩) 0 0) 0 [] rfl ?own ⟨b, o, none⟩ r.length cap (cellsL r) rfl ?len ?cells ?one ?c63 ?cby ?cbase ?next)
 case own =>
  have := World.ownsRow_made (w.alloc (.cells #[.int .i64 0, .int .i64 0, .slice none 0 0] 25)) #[] 0 (base := w.heap.size + 1) (e := 25) (size := 3) (by simp) (by simp [maxLen]) rfl
  simpa using this
 case len => rw [cellsL_length]
 case cells =>
  intro j u hu
  have := HC.out j u hu
  have ea : (Addr.mk b o none).add j = ⟨b, o + j, none⟩ := by unfold Addr.add; split <;> simp_all
  rw [ea]
  exact ((below2 w _ _).cell (p := ⟨b, o + j, none⟩) hlt).trans this
 case one => exact HIN.out
 case c63 => simp [maxLen]; omega
 case cby => omega
 case cbase => simp
 case next =>
  intro v' w' hown hgrow _
  have hbel : Below w.heap.size w w' := (below2 w _ _).grown hgrow (by simp; omega) (fun g hg => by simp [Value.ownBlock] at hg; omega)
  have hz : w.heap.size < w'.heap.size := by have := hgrow.size; simp at this; omega
  have hc0 : ∀ i, w'.cell? ⟨w.heap.size, i, none⟩ = ((w.alloc (.cells #[.int .i64 0, .int .i64 0, .slice none 0 0] 25)).alloc (.cells #[] 25)).cell? ⟨w.heap.size, i, none⟩ := fun i =>
   World.cell?_of_block (hgrow.block w.heap.size (by simp; omega) (fun e => by simp [Value.ownBlock] at e))
  have hf0 : ∀ i, w'.frozen? ⟨w.heap.size, i, none⟩ = ((w.alloc (.cells #[.int .i64 0, .int .i64 0, .slice none 0 0] 25)).alloc (.cells #[] 25)).frozen? ⟨w.heap.size, i, none⟩ := fun i =>
   World.frozen?_of_block (hgrow.block w.heap.size (by simp; omega) (fun e => by simp [Value.ownBlock] at e))
  have hsl : ∃ g c, v' = .slice (some ⟨g, 0, none⟩) r.length c ∧ w.heap.size < g ∧ ∀ j u, (cellsL r)[j]? = some u → w'.cell? ⟨g, 0 + j, none⟩ = some u := by
   rcases hown.2 with ⟨_, h0⟩ | ⟨g, c, cur, rfl, hg, _⟩
   ·exact absurd (List.length_eq_zero_iff.1 h0) hne
   ·refine ⟨g, c, rfl, by omega, fun j u hu => ?_⟩
    rw [Nat.zero_add, hown.cellAt j (by have := (List.getElem?_eq_some_iff.1 hu).1; rw [cellsL_length] at this; exact this)]
    exact hu
  obtain ⟨g, c, rfl, hg, hsl⟩ := hsl
  have HSL := tuck hsl
  have HBEL := tuck hbel
  clear hsl hbel hown hgrow
  go_wp2_with fail
  refine bodyPost_ret (v := .agg #[.int .i64 k, .int .i64 0, .slice (some ⟨g, 0, none⟩) r.length c]) (by simp [results, Tryz.results82, go_sem, hc0]) rfl ?_
  have hb3 := bSet3 HBEL.out (Nat.le_refl w.heap.size) 0 1 2 (.int .i64 k) (.int .i64 0) (.slice (some ⟨g, 0, none⟩) r.length c)
  refine ⟨hb3, g, c, rfl, hg, fun j u hu => ?_⟩
  have hne3 : ∀ i, (⟨w.heap.size, i, none⟩ : Addr) ≠ ⟨g, 0 + j, none⟩ := fun i e => by injection e; omega
  have hq := HSL.out j u hu
  rw [show (⟨g, j, none⟩ : Addr) = ⟨g, 0 + j, none⟩ by rw [Nat.zero_add]]
  rw [World.cell?_setCell_other _ _ _ _ (hne3 _), World.cell?_setCell_other _ _ _ _ (hne3 _), World.cell?_setCell_other _ _ _ _ (hne3 _)]
  exact hq
theorem nodeX_any (k : Int) (r : List (Tm × Value)) (w : World) (R cap : Nat) (T : TypeId) (cs : Array Value) (X : Nat → Prop) (hX : ∀ i, X i → i < w.heap.size) (hne : r ≠ []) (hl : r.length ≤ 100000) (hb : w.heap[R]? = some (.cells cs T (0, 0))) (hc : cs.toList = cellsL r) (hx : ∀ x ∈ r, SlX w X x.1.kids x.2) :
  Calls Tryz.prog 82 #[.int .i64 k, .slice (some ⟨R, 0, none⟩) r.length cap] w fun e w' => Below w.heap.size w w' ∧ ∃ (a : Option Addr) (c : Nat), e = .returned (.agg #[.int .i64 k, .int .i64 0, .slice a r.length c]) ∧ SlX w' X (r.map (·.1)) (.slice a r.length c) := by
 obtain ⟨b1, b2, -⟩ := block_of_cells hb
 refine (nodeR_any k r w R 0 cap hne hl (fun j u hu => ?_) (cellsL_one fun x hx' => (hx x hx').sl)).mono ?_
 ·rw [Nat.zero_add, b2, ← Array.getElem?_toList, hc]; exact hu
 ·rintro e w' ⟨hb', g, c, rfl, hg, hrow⟩
  refine ⟨hb', some ⟨g, 0, none⟩, c, rfl, ?_⟩
  have hr : RowAt (mask w' X) 0 (r.map (·.1)) g 0 := RowAt.of_list (fun j u hu => mask_cell.2 ⟨fun h => by have := hX _ h; dsimp only at this; omega, by rw [Nat.zero_add]; exact hrow j u hu⟩) (fun x hx' => (hx x hx').below hb')
  refine ⟨_, c, g, 0, ?_, ?_, fun _ => ⟨rfl, Nat.zero_le _⟩, hr⟩
  ·rw [List.length_map]
  ·rw [List.length_map]; unfold maxLen; omega
theorem SlX.lay {w : World} {X : Nat → Prop} {l : List Tm} {v : Value} (h : SlX w X l v) (o : Obj) : SlX (w.alloc o) (fun i => X i ∨ i = w.heap.size) l v :=
 h.to fun p u hn hc => by
  have hp := World.block_lt_of_cell? w p hc
  exact ⟨fun hx => by
   rcases hx with hx | hx
   ·exact hn hx
   ·omega, ((below1 w o).cell hp).trans hc⟩
theorem SlX.put {w : World} {X : Nat → Prop} {l : List Tm} {v : Value} (h : SlX w X l v) {g : Nat} (hg : X g) (i j k : Nat) (x y z : Value) : SlX (((w.setCell ⟨g, i, none⟩ x).setCell ⟨g, j, none⟩ y).setCell ⟨g, k, none⟩ z) X l v :=
 ((h.set (q := ⟨g, i, none⟩) hg _).set (q := ⟨g, j, none⟩) hg _).set (q := ⟨g, k, none⟩) hg _
theorem SlX.less {w : World} {X Y : Nat → Prop} {l : List Tm} {v : Value} (h : SlX w Y l v) (hXY : ∀ i, X i → Y i) : SlX w X l v :=
 h.to fun _ _ hn hc => ⟨fun hx => hn (hXY _ hx), hc⟩
end Go.Proofs.YtabbbnddfcbdiaaGreat
namespace Go.Proofs.YtabbbnddfcbdiaaGreat
open Go.RowKit
def sumS : List ByteArray → Nat
 | [] => 0
 | s :: L => s.size + sumS L
theorem kidS_le : ∀ (L : List ByteArray) (i : Nat), (kidS L i).size ≤ sumS L
 | [], i => by simp [kidS, ByteArray.size]
 | s :: L, 0 => by rw [sumS]; show s.size ≤ _; omega
 | s :: L, i + 1 => by
  have := kidS_le L i
  rw [sumS]
  show (kidS L i).size ≤ _
  omega
theorem kidS_two : ∀ (L : List ByteArray), (kidS L 0).size + (kidS L 1).size ≤ sumS L
 | [] => by simp [kidS, ByteArray.size]
 | [s] => by rw [sumS, sumS]; show s.size + (ByteArray.mk #[]).size ≤ _; have : (ByteArray.mk #[]).size = 0 := rfl; omega
 | s :: t :: L => by rw [sumS, sumS]; show s.size + t.size ≤ _; omega
theorem sumS_take : ∀ (L : List ByteArray) (q : Nat), sumS (L.take (q + 1)) = sumS (L.take q) + (kidS L q).size
 | [], q => by simp [kidS, sumS, ByteArray.size]
 | s :: L, 0 => by simp [sumS]; rfl
 | s :: L, q + 1 => by
  have := sumS_take L q
  rw [List.take_succ_cons, List.take_succ_cons, sumS, sumS, this]
  show _ = s.size + _ + (kidS L q).size
  omega
theorem sumS_take_le : ∀ (L : List ByteArray) (q : Nat), sumS (L.take q) ≤ sumS L
 | [], q => by simp
 | s :: L, 0 => by simp [sumS]
 | s :: L, q + 1 => by
  have := sumS_take_le L q
  rw [List.take_succ_cons, sumS, sumS]
  omega
theorem joinN_le (L : List ByteArray) : ∀ q, (joinN L q).size ≤ sumS (L.take q) + q
 | 0 => by rw [joinN]; simp [ByteArray.size]
 | q + 1 => by
  have h1 := joinN_le L q
  have h2 := sumS_take L q
  have h3 : (ByteArray.mk #[44]).size = 1 := rfl
  rw [joinN]
  split <;> simp only [ByteArray.size_append, h3] <;> omega
theorem ite_le_of (c : Prop) [Decidable c] (a b m : Nat) (h1 : a ≤ m) (h2 : b ≤ m) : (if c then a else b) ≤ m := by split <;> assumption
mutual
theorem Tm.txt_size : ∀ t : Tm, t.txt.size ≤ 8 * t.size
 | .mk k n l => by
  have hs := txtL_sum l
  have h0 := kidS_le (txtL l) 0
  have h1 := kidS_two (txtL l)
  have h3 := joinN_le (txtL l) 3
  have h4 := joinN_le (txtL l) 4
  have h5 := sumS_take_le (txtL l) 3
  have h6 := sumS_take_le (txtL l) 4
  have h2 := decS_size n.toNat
  have e1 : ∀ a : UInt8, (ByteArray.mk #[a]).size = 1 := fun _ => rfl
  have e2 : ∀ a b : UInt8, (ByteArray.mk #[a, b]).size = 2 := fun _ _ => rfl
  rw [Tm.txt, Tm.size]
  simp only [txtOf, apply_ite ByteArray.size, ByteArray.size_append, e1, e2]
  repeat' (first | refine ite_le_of _ _ _ _ ?_ ?_ | omega)
theorem txtL_sum : ∀ l : List Tm, sumS (txtL l) ≤ 8 * sizes l
 | [] => by rw [txtL, sumS]; omega
 | t :: l => by
  have h1 := Tm.txt_size t
  have h2 := txtL_sum l
  rw [txtL, sumS, sizes]
  omega
end
set_option maxRecDepth 100000 in
set_option maxHeartbeats 1600000 in
theorem list_any (l : List Tm) (hl : l.length ≤ 4) (hsz : sizes l ≤ 1000000)
  (hrec : ∀ i (hi : i < l.length) (w' : World) (s : Value), SlIn w' 0 l[i].kids s → Calls Tryz.prog 137 #[.agg #[.int .i64 l[i].kind, .int .i64 l[i].num, s]] w' (StrPost w' l[i].txt))
  (w : World) (v : Value) (hs : SlIn w 0 l v) : Calls Tryz.prog 147 #[v] w (StrPost w (joinN (txtL l) l.length)) := by
 obtain ⟨a, cap, b, o, rfl, hlm, hp, hc⟩ := hs.open
 have HREC := tuck hrec
 have HC := tuck hc
 have HPP := tuck hp
 have HP : Hid (∀ s w', s = joinN (txtL l) l.length → Below w.heap.size w w' → StrPost w (joinN (txtL l) l.length) (.returned (.string s)) w') := tuck fun s w' h hb => by rw [h]; exact ⟨rfl, hb⟩
 generalize StrPost w (joinN (txtL l) l.length) = post at *
 have HSUM := tuck (txtL_sum l)
 have HSZ := tuck hsz
 clear hs hrec hc hp hsz
 go_enter Tryz.func147, Tryz.ntmps147
 go_wp2_with fail
 go_loopw [3, 4] (fun out i wr => ∃ q : Nat, q ≤ l.length ∧ i = .int .i64 q ∧ out = .string (joinN (txtL l) q) ∧ Below w.heap.size w wr) (fun _ i _ => l.length - (intOf i).toNat)
 case atStart => exact ⟨0, Nat.zero_le _, rfl, rfl, Below.refl _ _⟩
 case round =>
  obtain ⟨q, hq, rfl, rfl, hb⟩ := hrel
  have HB := tuck hb
  clear hb
  by_cases hlt : q < l.length
  ·have hlti : decide ((q : Int) < (l.length : Int)) = true := decide_eq_true (by omega)
   have hlti2 : (q : Int) < (l.length : Int) := by omega
   obtain ⟨rfl, _, hbw⟩ := HPP.out (by intro e; rw [e] at hlt; simp at hlt)
   obtain ⟨s, c0, c1, c2, hs⟩ := HC.out q hlt
   obtain ⟨sa, sc, rfl⟩ := hs.form
   have hjs : (joinN (txtL l) q).size ≤ 8000100 := by
    have h1 := joinN_le (txtL l) q
    have h2 := sumS_take_le (txtL l) q
    have h3 := HSUM.out
    have h4 := HSZ.out
    omega
   have hts : l[q].txt.size ≤ 8000100 := by
    have h1 := l[q].txt_size
    have h2 := size_get_le l q hlt
    have h4 := HSZ.out
    omega
   have HJ : Hid (joinN (txtL l) (q + 1) = (if 0 < q then joinN (txtL l) q ++ ByteArray.mk #[44] else joinN (txtL l) q) ++ l[q].txt) := tuck (by rw [joinN, kidS_txt l q hlt])
   have HK := tuck (fun w' s => HREC.out q hlt w' s)
   have HS := tuck hs
   have hbr : b < wr.heap.size := Nat.lt_of_lt_of_le hbw HB.out.size
   replace c0 := (HB.out.cell (p := ⟨b, o + q * 3, none⟩) hbw).trans c0
   replace c1 := (HB.out.cell (p := ⟨b, o + q * 3 + 1, none⟩) hbw).trans c1
   replace c2 := (HB.out.cell (p := ⟨b, o + q * 3 + 2, none⟩) hbw).trans c2
   clear hs
   generalize l[q] = T at *
   obtain ⟨J, hJ⟩ : ∃ J, J = joinN (txtL l) q := ⟨_, rfl⟩
   obtain ⟨X, hX⟩ : ∃ X, X = T.txt := ⟨_, rfl⟩
   rw [← hJ] at HJ hjs ⊢
   rw [← hX] at HJ HK hts
   clear hJ hX
   have z1 : ¬ (9223372036854775807 < J.size + 1) := by omega
   have z2 : ¬ (9223372036854775807 < J.size + 1 + X.size) := by omega
   have z3 : ¬ (9223372036854775807 < J.size + X.size) := by omega
   clear hjs hts
   by_cases hq0 : 0 < q
   ·have hq0i : decide ((0 : Int) < (q : Int)) = true := decide_eq_true (by omega)
    have HJJ : Hid (joinN (txtL l) (q + 1) = J ++ ByteArray.mk #[44] ++ X) := tuck (by rw [HJ.out, if_pos hq0])
    clear HJ
    go_wp2_with fail
    refine (HK.out _ _ (HS.out.below HB.out)).mono ?_
    rintro e w2 ⟨rfl, hb2⟩
    have HB2 := tuck (bAfter HB.out hb2)
    clear hb2
    go_wp2_with fail
    go_roundw
    case rel => exact ⟨q + 1, by omega, by go_num, by rw [HJJ.out], HB2.out⟩
    case measure => simp [intOf]; omega
   ·have hq0i : decide ((0 : Int) < (q : Int)) = false := decide_eq_false (by omega)
    have HJJ : Hid (joinN (txtL l) (q + 1) = J ++ X) := tuck (by rw [HJ.out, if_neg hq0])
    clear HJ
    go_wp2_with fail
    refine (HK.out _ _ (HS.out.below HB.out)).mono ?_
    rintro e w2 ⟨rfl, hb2⟩
    have HB2 := tuck (bAfter HB.out hb2)
    clear hb2
    go_wp2_with fail
    go_roundw
    case rel => exact ⟨q + 1, by omega, by go_num, by rw [HJJ.out], HB2.out⟩
    case measure => simp [intOf]; omega
  ·have hlti : decide ((q : Int) < (l.length : Int)) = false := decide_eq_false (by omega)
   have hlti2 : ¬ (q : Int) < (l.length : Int) := by omega
   obtain rfl : q = l.length := by omega
   go_wp2_with fail
   exact HP.out _ _ rfl HB.out
end Go.Proofs.YtabbbnddfcbdiaaGreat
