/-
  RedN.
-/
import Derived.Test.YtmgoajgjpgamcaaB15
import Derived.Test.YtmgoajgjpgamcaaB25
import Derived.Test.YtmgoajgjpgamcaaB35
import Derived.IntWalk
namespace Go.Proofs.Ytmgoajgjpgamcaa
open Go.RowKit
mutual
def Tm.reds : Tm → Int
 | .mk k n l => (if (Tm.mk k n l).redex = 0 then 0 else 1) + redsL l
def redsL : List Tm → Int
 | [] => 0
 | t :: l => t.reds + redsL l
end
theorem redsL_append : ∀ a b : List Tm, redsL (a ++ b) = redsL a + redsL b
 | [], b => by rw [List.nil_append, redsL]; omega
 | t :: a, b => by rw [List.cons_append, redsL, redsL, redsL_append a b]; omega
theorem redsL_drop {l : List Tm} {q : Nat} (h : q < l.length) : redsL (l.drop q) = l[q].reds + redsL (l.drop (q + 1)) := by
 rw [List.drop_eq_getElem_cons h, redsL]
theorem redsL_end {l : List Tm} {q : Nat} (h : l.length ≤ q) : redsL (l.drop q) = 0 := by
 rw [List.drop_eq_nil_of_le h, redsL]
mutual
theorem Tm.reds_bd : ∀ (t : Tm), 0 ≤ t.reds ∧ t.reds ≤ t.size
 | .mk k n l => by
  have := redsL_bd l
  rw [Tm.reds, Tm.size]
  split <;> omega
theorem redsL_bd : ∀ (l : List Tm), 0 ≤ redsL l ∧ redsL l ≤ sizes l
 | [] => by rw [redsL, sizes]; omega
 | t :: l => by
  have := Tm.reds_bd t
  have := redsL_bd l
  rw [redsL, sizes]
  omega
end
noncomputable def redsOf (t : Tm) : Int := @ite _ t.Valid (Classical.propDecidable _) t.reds 0
def redStep (s : Int) (t : Tm) (_ _ : Int) : Option Int := some (if t.redex = 0 then s else inc1 s)
mutual
theorem Tm.trav_reds : ∀ (t : Tm) (b d s : Int), 0 ≤ s → s + t.reds ≤ 1000 → t.trav redStep b d s = some (s + t.reds)
 | .mk k n l, b, d, s, h0, h1 => by
  have hb := redsL_bd l
  rw [Tm.trav, redStep, Option.bind_some]
  rw [Tm.reds] at h1 ⊢
  by_cases h : (Tm.mk k n l).redex = 0
  ·rw [if_pos h] at h1 ⊢
   rw [if_pos h, travL_reds l k 0 b d s h0 (by omega)]
   congr 1
   omega
  ·rw [if_neg h] at h1 ⊢
   rw [if_neg h, inc1_eq (by omega) (by omega), travL_reds l k 0 b d (s + 1) (by omega) (by omega)]
   congr 1
   omega
theorem travL_reds : ∀ (l : List Tm) (k : Int) (i : Nat) (b d s : Int), 0 ≤ s → s + redsL l ≤ 1000 → travL redStep k l i b d s = some (s + redsL l)
 | [], k, i, b, d, s, _, _ => by rw [travL, redsL]; congr 1; omega
 | t :: l, k, i, b, d, s, h0, h1 => by
  have h2 := Tm.reds_bd t
  have h3 := redsL_bd l
  rw [redsL] at h1 ⊢
  rw [travL, Tm.trav_reds t _ _ s h0 (by omega), Option.bind_some, travL_reds l k (i + 1) b d _ (by omega) (by omega)]
  congr 1
  omega
end
theorem reds_trav {t : Tm} (h : t.Valid) : t.trav redStep 0 1 0 = some (redsOf t) := by
 have h1 := h.2.2
 have h2 := t.reds_bd
 rw [Tm.trav_reds t 0 1 0 (by omega) (by omega)]
 unfold redsOf
 rw [if_pos h]
 congr 1
 omega
set_option maxRecDepth 100000 in
theorem reds_any : ∀ (l : List Tm) (k n : Int) (w : World) (s : Value), sizes l ≤ 1000 → (Tm.mk k n l).allOk → SlIn w 0 l s →
  Calls Try.prog 37 #[.agg #[.int .i64 k, .int .i64 n, s]] w (IntPost w (Tm.mk k n l).reds) := by
 intro l
 induction l using Tm.ind with
 | h l ih =>
 intro k n w v hsz hok hin
 obtain ⟨a, cap, bb, o, rfl, hl, hp, hc⟩ := hin.open
 have hroot : (Tm.mk k n l).rootOk := ((Tm.mk k n l).allOk_iff.1 hok).1
 have hkids : allsOk l := ((Tm.mk k n l).allOk_iff.1 hok).2
 have hst : (Tm.mk k n l).reds = (if (Tm.mk k n l).redex = 0 then 0 else 1) + redsL l := by rw [Tm.reds]
 have hbd := redsL_bd l
 have HRED : Hid (∀ W, Below w.heap.size w W → Calls Try.prog 51 #[.agg #[.int .i64 k, .int .i64 n, .slice a l.length cap]] W (IntPost W (Tm.mk k n l).redex)) := tuck fun W h =>
  redS_any (.mk k n l) hroot W (.slice a l.length cap) (hin.below h)
 clear hin
 obtain ⟨T, hT⟩ : ∃ T, (Tm.mk k n l).reds = T := ⟨_, rfl⟩
 rw [hT]
 obtain ⟨R, hR⟩ : ∃ R, R = (Tm.mk k n l).redex := ⟨_, rfl⟩
 rw [← hR] at HRED hst
 have HI := tuck ih
 have HP := tuck hp
 have HC := tuck hc
 have HSZ := tuck hsz
 have HKIDS := tuck hkids
 have hcase : ((R != 0) = true ∧ T = 1 + redsL l) ∨ ((R != 0) = false ∧ T = 0 + redsL l) := by
  by_cases h : R = 0
  ·right; exact ⟨by simpa using h, by rw [← hT, hst, if_pos h]⟩
  ·left; exact ⟨by simpa using h, by rw [← hT, hst, if_neg h]⟩
 have hT2 : T ≤ 1001 := by rcases hcase with h | h <;> omega
 clear ih hp hc hst hT hR hsz hbd hok hroot hkids
 unfold maxLen at hl
 have hb0 : Below w.heap.size w (w.alloc (.cells #[.int .i64 k, .int .i64 n, .slice a l.length cap] 25)) := below1 _ _
 have HB0 := tuck hb0
 obtain ⟨g1, hT⟩ | ⟨g1, hT⟩ := hcase
 all_goals
  have HT := tuck hT
  clear hT
  go_enter Try.func37, Try.ntmps37
  go_wp2_with fail
  refine (HRED.out _ HB0.out).mono ?_
  rintro e W0 ⟨rfl, hb1⟩
  have hbox : W0.cell? ⟨w.heap.size, 2, none⟩ = some (.slice a l.length cap) := (hb1.cell (p := ⟨w.heap.size, 2, none⟩) (by simp)).trans (by go_simp)
  have hz0 : w.heap.size < W0.heap.size := by have := hb1.size; simp at this; omega
  have HBOX := tuck hbox
  have HBW := tuck (bAfter HB0.out hb1)
  clear hbox hb1
  go_wp2_with fail
  go_loopw [4, 3] (fun i c wr => ∃ (q : Nat) (m : Int), q ≤ l.length ∧ i = .int .i64 q ∧ c = .int .i64 m ∧ 0 ≤ m ∧ T = m + redsL (l.drop q) ∧ Below W0.heap.size W0 wr) (fun i _ _ => l.length - (intOf i).toNat)
  case atStart => exact ⟨0, _, Nat.zero_le _, rfl, rfl, by omega, HT.out, Below.refl _ _⟩
  case round =>
   obtain ⟨q, m, hq, rfl, rfl, hm, hTm, hb⟩ := hrel
   have hbox : wr.cell? ⟨w.heap.size, 2, none⟩ = some (.slice a l.length cap) := (hb.cell (p := ⟨w.heap.size, 2, none⟩) hz0).trans HBOX.out
   by_cases hlt : q < l.length
   ·have hlti : ((q : Int) < (l.length : Int)) := by omega
    have hsk := kids_get_lt l q hlt
    have hsz := HSZ.out
    have htd := redsL_drop hlt
    have hbd1 := l[q].reds_bd
    have hbd2 := redsL_bd (l.drop (q + 1))
    have hokq : l[q].allOk := (allsOk_iff l).1 HKIDS.out _ (List.getElem_mem hlt)
    obtain ⟨rfl, _, hbw⟩ := HP.out (by intro e; rw [e] at hlt; simp at hlt)
    obtain ⟨s, c0, c1, c2, hs⟩ := HC.out q hlt
    obtain ⟨sa, sc, rfl⟩ := hs.form
    have hbb := bAfter HBW.out hb
    replace c0 := (hbb.cell (p := ⟨bb, o + q * 3, none⟩) hbw).trans c0
    replace c1 := (hbb.cell (p := ⟨bb, o + q * 3 + 1, none⟩) hbw).trans c1
    replace c2 := (hbb.cell (p := ⟨bb, o + q * 3 + 2, none⟩) hbw).trans c2
    have HS2 := tuck (hs.below hbb)
    have HI' := tuck (HI.out q hlt l[q].kind l[q].num)
    rw [Tm.eta] at HI'
    have HOKQ := tuck hokq
    clear hbb hs HI hokq
    generalize l[q] = y at *
    generalize hrest : redsL (l.drop (q + 1)) = rest at *
    have HREST := tuck hrest
    clear hrest
    have hsy : sizes y.kids ≤ 1000 := by omega
    have hy0 : 0 ≤ y.reds := hbd1.1
    have hmy : m + y.reds ≤ 1001 := by omega
    have HTM := tuck hTm
    have HTD := tuck htd
    have HBR := tuck hb
    have HW2 : IntKind.i64.wrap (m + y.reds) = m + y.reds := IntWalk.i64_in _ (by omega)
    have HCALL := tuck (HI'.out wr _ hsy HOKQ.out HS2.out)
    clear hbd1 hbd2 hsk hsz htd hTm hsy hb HI'
    go_wp2_with (go_at_call 37; refine HCALL.out.mono ?_; rintro e w2 ⟨rfl, hb2⟩; have HB2 := tuck hb2; clear hb2)
    go_roundw
    case rel => exact ⟨q + 1, _, by omega, by go_num, rfl, by omega, by rw [HTM.out, HTD.out, HREST.out]; omega, bAfter HBR.out HB2.out⟩
    case measure => simp [intOf]; omega
   ·have hge2 : ¬ ((q : Int) < (l.length : Int)) := by omega
    have HB := tuck hb
    have HTM : Hid (T = m) := by
     rw [redsL_end (by omega)] at hTm
     show T = m
     omega
    clear hb hTm
    go_wp2
    go_ret
    exact ⟨ret_int HTM.out.symm, bAfter HBW.out HB.out⟩
set_option maxRecDepth 100000 in
theorem redsS_any (t : Tm) (w : World) (v : Value) (h : TmIn w 0 t v) : Calls Try.prog 17 #[v] w (IntPost w (redsOf t)) := by
 obtain ⟨s, rfl, hs⟩ := h
 obtain ⟨a, c, rfl⟩ := hs.form
 have HS := tuck hs
 have HV : Hid (∀ (w : World), SlIn w 0 t.kids (.slice a t.kids.length c) → Calls Try.prog 14 #[.agg #[.int .i64 t.kind, .int .i64 t.num, .slice a t.kids.length c]] w (BoolPost w (tr t.Valid))) := fun w h => validS_any t w _ ⟨_, rfl, h⟩
 clear hs
 by_cases hv : t.Valid
 ·rw [tr_of hv] at HV
  have HR : Hid (∀ (w : World), SlIn w 0 t.kids (.slice a t.kids.length c) → Calls Try.prog 37 #[.agg #[.int .i64 t.kind, .int .i64 t.num, .slice a t.kids.length c]] w (IntPost w (redsOf t))) := fun w h => by
   have h2 := reds_any t.kids t.kind t.num w _ (by have := (valid_bounds hv).1; omega) (by rw [Tm.eta]; exact hv.1) h
   rw [Tm.eta] at h2
   rwa [show t.reds = redsOf t by unfold redsOf; rw [if_pos hv]] at h2
  clear hv
  generalize redsOf t = r at *
  go_enter Try.func17, Try.ntmps17
  go_wp2_with (first | (go_at_call 14; refine (HV.out _ (HS.out.below (below1 _ _))).mono ?_; rintro e w1 ⟨rfl, hb1⟩; obtain ⟨oc, of⟩ := old_cells hb1; have HB1 := tuck hb1; clear hb1) | (go_at_call 37; refine (HR.out _ (HS.out.below (bAfter (below1 _ _) HB1.out))).mono ?_; rintro e w2 ⟨rfl, hb2⟩))
  go_ret
  exact ⟨rfl, bAfter (bAfter (below1 _ _) HB1.out) hb2⟩
 ·rw [tr_not hv] at HV
  rw [show redsOf t = 0 by unfold redsOf; rw [if_neg hv]]
  go_enter Try.func17, Try.ntmps17
  go_wp2_with (go_at_call 14; refine (HV.out _ (HS.out.below (below1 _ _))).mono ?_; rintro e w1 ⟨rfl, hb1⟩; obtain ⟨oc, of⟩ := old_cells hb1; have HB1 := tuck hb1; clear hb1)
  go_ret
  exact ⟨rfl, bAfter (below1 _ _) HB1.out⟩
theorem red1_ok {u0 w0 : World} {c : Nat} (hu : Below u0.heap.size u0 w0) (hc : u0.heap.size ≤ c) :
  UseOk 200 21 u0 w0 (fun i => i = c) (IntAt c) 35 #[.pointer (some ⟨c, 0, none⟩)] redStep := by
 intro w s M x v b d hstep hst hroot _ hin hb hb1 hd hd1
 obtain ⟨a, cap, rfl⟩ := hin.form
 obtain ⟨hcell, rfl⟩ := hst
 have hbw : Below u0.heap.size u0 w := hstep.below hu hu.size (fun i hi => by rw [hi]; exact hc)
 have HR := tuck (fun W (hb : Below w.heap.size w W) => redI_any x hroot W (.slice a x.kids.length cap) ((hin.below hbw).below (hb.mono (Nat.le_refl _))))
 have HSTEP := tuck (Step.refl hstep.lt)
 have HC := tuck hcell
 obtain ⟨z, e0, ef⟩ := block_of_cells hcell
 clear hstep hin hcell e0 ef
 show Calls Try.prog _ #[.agg #[.int .i64 x.kind, .int .i64 x.num, .slice a x.kids.length cap], .agg #[.int .i64 b, .int .i64 d], .pointer (some ⟨c, 0, none⟩)] w _
 have HP : Hid (∀ M' w' s', (if x.redex = 0 then s else inc1 s) = s' → Step (fun i => i = c) w w' M' → IntAt c s' M' w' → UsePost (IntAt c) (fun i => i = c) w (redStep s x b d) (.returned (.bool true)) w') := fun M' w' s' h0 h1 h2 => ⟨M', h1, by unfold redStep; rfl, fun s'' h => by unfold redStep at h; cases h; rw [h0]; exact h2⟩
 generalize UsePost (IntAt c) (fun i => i = c) w (redStep s x b d) = post at *
 generalize x.redex = R at *
 by_cases hR : R = 0
 ·have HQ := tuck (fun M' w' => HP.out M' w' s (if_pos hR))
  have g0 : (R != 0) = false := by simpa using hR
  clear HP hR
  go_enter Try.func35, Try.ntmps35
  go_wp2_with fail
  refine (HR.out _ (below2 _ _ _)).mono ?_
  rintro e w1 ⟨rfl, hb1⟩
  have HB2 := tuck (bAfter (below2 _ _ _) hb1)
  clear hb1 HR
  go_wp2_with fail
  exact HQ.out _ _ (HSTEP.out.and HB2.out) ⟨(HB2.out.block c z).trans HC.out, rfl⟩
 ·have HQ := tuck (fun M' w' => HP.out M' w' (inc1 s) (if_neg hR))
  have g0 : (R != 0) = true := by simpa using hR
  clear HP hR
  go_enter Try.func35, Try.ntmps35
  go_wp2_with fail
  refine (HR.out _ (below2 _ _ _)).mono ?_
  rintro e w1 ⟨rfl, hb1⟩
  have HB2 := tuck (bAfter (below2 _ _ _) hb1)
  have hc1 := (HB2.out.block c z).trans HC.out
  obtain ⟨z1, e0, ef⟩ := block_of_cells hc1
  have c0 : w1.cell? ⟨c, 0, none⟩ = some (.int .i64 s) := e0 0
  have f0 := ef 0
  have HSET : Hid (IntAt c (inc1 s) (fun i => i = c) (w1.setCell ⟨c, 0, none⟩ (.int .i64 (inc1 s)))) := tuck ⟨by simpa using block_set hc1 0 (.int .i64 (inc1 s)), rfl⟩
  clear hb1 HR hc1 e0 ef
  go_wp2_with fail
  exact HQ.out _ _ ((HSTEP.out.and HB2.out).setCell rfl _) HSET.out
set_option maxRecDepth 100000 in
theorem redsI_any (t : Tm) (w : World) (v : Value) (h : TmIn w 0 t v) : Calls Try.prog 16 #[v] w (IntPost w (redsOf t)) := by
 obtain ⟨s, rfl, hs⟩ := h
 obtain ⟨a, cap, rfl⟩ := hs.form
 have HV : Hid (∀ w', Below w.heap.size w w' → Calls Try.prog 12 #[.agg #[.int .i64 t.kind, .int .i64 t.num, .slice a t.kids.length cap]] w' (BoolPost w' (tr t.Valid))) := fun w' h => validI_any t w' _ ⟨_, rfl, hs.below h⟩
 by_cases hv : t.Valid
 ·have HR := tuck (reds_trav hv)
  rw [tr_of hv] at HV
  have HE : Hid (∀ (w1 w2 : World) (c : Nat), Below w.heap.size w w1 → w.heap.size ≤ c → Below w1.heap.size w1 w2 → w1.heap[c]? = some (.cells #[.int .i64 0] 3 (0, 0)) →
    Calls Try.prog 33 #[.agg #[.int .i64 t.kind, .int .i64 t.num, .slice a t.kids.length cap], .agg #[.int .i64 0, .int .i64 1], .func (.func 35) #[] #[.pointer (some ⟨c, 0, none⟩)]] w2
     (UsePost (IntAt c) (fun i => i = c) w2 (some (redsOf t)))) := fun w1 w2 c hb hc hb2 hcc => by
   have hcl := (block_of_cells hcc).1
   have h := each_any (D := 200) (L := 21) (by omega) IntAt.below hb (fun i hi => by rw [hi]; exact hc) (fun _ _ => by kernel_rfl) (red1_ok hb hc) t.kids t.kind t.num 0 1 w2 0 (fun i => i = c) _ (Step.of_below hb2 (fun i hi => by rw [hi]; exact hcl)) (IntAt.below _ _ _ _ ⟨hcc, rfl⟩ hb2) (by rw [Tm.eta]; exact hv.1) (by rw [Tm.eta]; exact most_valid hv) hs (by omega) (by have := (valid_bounds hv).2; omega) (by omega) (by have := (valid_bounds hv).2; omega)
   rw [Tm.eta, HR.out] at h
   exact h
  generalize redsOf t = res at *
  clear hv HR hs
  go_enter Try.func16, Try.ntmps16
  go_wp2_with fail
  refine (HV.out _ (below1 _ _)).mono ?_
  rintro e w1 ⟨rfl, hb⟩
  have HB := tuck (bAfter (below1 _ _) hb)
  have hz : w.heap.size < w1.heap.size := by have := hb.size; simp at this; omega
  have b0 : w1.cell? ⟨w.heap.size, 0, none⟩ = some (.int .i64 t.kind) := (hb.cell (p := ⟨w.heap.size, 0, none⟩) (by simp)).trans (by go_simp)
  have b1 : w1.cell? ⟨w.heap.size, 1, none⟩ = some (.int .i64 t.num) := (hb.cell (p := ⟨w.heap.size, 1, none⟩) (by simp)).trans (by go_simp)
  have b2 : w1.cell? ⟨w.heap.size, 2, none⟩ = some (.slice a t.kids.length cap) := (hb.cell (p := ⟨w.heap.size, 2, none⟩) (by simp)).trans (by go_simp)
  clear hb HV
  go_wp2_with fail
  have hcn := heap_new w1 (.cells #[.int .i64 0] 3)
  have hbw : Below w.heap.size w (w1.alloc (.cells #[.int .i64 0] 3)) := bAfter HB.out (below1 _ _)
  have hbox : (w.heap.size < (w1.alloc (.cells #[.int .i64 0] 3)).heap.size ∧ (w1.alloc (.cells #[.int .i64 0] 3)).cell? ⟨w.heap.size, 0, none⟩ = some (.int .i64 t.kind) ∧ (w1.alloc (.cells #[.int .i64 0] 3)).cell? ⟨w.heap.size, 1, none⟩ = some (.int .i64 t.num) ∧ (w1.alloc (.cells #[.int .i64 0] 3)).cell? ⟨w.heap.size, 2, none⟩ = some (.slice a t.kids.length cap)) :=
   box3_below ⟨hz, b0, b1, b2⟩ (below1 _ _)
  have hle : w.heap.size ≤ w1.heap.size := Nat.le_of_lt hz
  have HCN := tuck hcn
  have HBW := tuck hbw
  have HBOX := tuck hbox
  clear hcn hbw hbox b0 b1 b2
  obtain ⟨z0, b0, b1, b2⟩ := HBOX.out
  generalize w1.alloc (.cells #[.int .i64 0] 3) = W0 at *
  generalize w1.heap.size = c at *
  have hcz := (block_of_cells HCN.out).1
  have hnc : ¬ w.heap.size = c := by omega
  go_region_held3 (fun w' => w.heap.size < w'.heap.size ∧ w'.cell? ⟨w.heap.size, 0, none⟩ = some (.int .i64 t.kind) ∧ w'.cell? ⟨w.heap.size, 1, none⟩ = some (.int .i64 t.num) ∧ w'.cell? ⟨w.heap.size, 2, none⟩ = some (.slice a t.kids.length cap)) (first | exact HBOX.out | exact box3_step (by assumption) hs3 hnc | exact box3_below (by assumption) hb2) (first | (go_at_call 34; refine (rootSpot_any _).mono ?_; rintro e w2 ⟨rfl, hb2⟩) | (go_at_call 33; refine (HE.out W0 _ c HBW.out hle (bAfter (Below.refl _ _).drew hb2) HCN.out).mono ?_; rintro e w3 ⟨M3, hs3, rfl, hst3⟩))
  all_goals
   obtain ⟨hc3, rfl⟩ := hst3 res rfl
   have c3 : w3.cell? ⟨c, 0, none⟩ = some (.int .i64 res) := (block_of_cells hc3).2.1 0
   have hbd : Below w.heap.size w w2 := bAfter HBW.out (bAfter (Below.refl _ _).drew hb2)
   have HB3 := tuck (hs3.below hbd hbd.size (fun i hi => by rw [hi]; exact hle))
   clear hs3 hst3 hb2 hc3 hbd
   go_wp2_with fail
   go_ret
   exact ⟨rfl, HB3.out⟩
 ·rw [tr_not hv] at HV
  rw [show redsOf t = 0 from if_neg hv]
  clear hv hs
  go_enter Try.func16, Try.ntmps16
  go_wp2_with fail
  refine (HV.out _ (below1 _ _)).mono ?_
  rintro e w1 ⟨rfl, hb⟩
  have HB := tuck (bAfter (below1 _ _) hb)
  clear hb
  go_wp2_with fail
  go_ret
  exact ⟨rfl, HB.out⟩
end Go.Proofs.Ytmgoajgjpgamcaa
