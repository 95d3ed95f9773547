/-
  ImplD.
-/
import Derived.Test.YtmgoajgjpgamcaaB13
namespace Go.Proofs.Ytmgoajgjpgamcaa
open Go.RowKit
theorem depthI_any (t : Tm) (w : World) (v : Value) (h : TmIn w 0 t v) : Calls Try.prog 9 #[v] w (IntPost w (depthOf t)) := by
 obtain ⟨s, rfl, hs⟩ := h
 have HS := tuck hs
 clear hs
 have hm := fun w s => measure_any t w (.agg #[.int .i64 t.kind, .int .i64 t.num, s])
 have HM : Hid (∀ (w : World), SlIn w 0 t.kids s → Calls Try.prog 22 #[.agg #[.int .i64 t.kind, .int .i64 t.num, s]] w (ValPost w (measured t))) := fun w h => measure_any t w _ ⟨s, rfl, h⟩
 by_cases hv : t.Valid
 ·rw [measured_yes hv] at HM
  rw [show depthOf t = t.hgt by unfold depthOf; rw [if_pos hv]]
  go_enter Try.func9, Try.ntmps9
  go_wp2_with (go_at_call 22; refine (HM.out _ (HS.out.below (below1 _ _))).mono ?_; rintro e w1 ⟨rfl, hb1⟩; obtain ⟨oc, of⟩ := old_cells hb1; have HB1 := tuck hb1; clear hb1)
  go_ret
  exact ⟨rfl, (bAfter (below1 _ _) HB1.out).alloc (bAfter (below1 _ _) HB1.out).size _⟩
 ·rw [measured_no hv] at HM
  rw [show depthOf t = 0 by unfold depthOf; rw [if_neg hv]]
  go_enter Try.func9, Try.ntmps9
  go_wp2_with (go_at_call 22; refine (HM.out _ (HS.out.below (below1 _ _))).mono ?_; rintro e w1 ⟨rfl, hb1⟩; obtain ⟨oc, of⟩ := old_cells hb1; have HB1 := tuck hb1; clear hb1)
  go_ret
  exact ⟨rfl, (bAfter (below1 _ _) HB1.out).alloc (bAfter (below1 _ _) HB1.out).size _⟩
set_option maxRecDepth 100000 in
theorem ldepth_any : ∀ (l : List Tm) (k n : Int) (w : World) (s : Value), hgts l ≤ 1000 → SlIn w 0 l s →
  Calls Try.prog 24 #[.agg #[.int .i64 k, .int .i64 n, s]] w (IntPost w (1 + hgts l)) := by
 intro l
 induction l using Tm.ind with
 | h l ih =>
 intro k n w v hh hin
 obtain ⟨a, cap, b, o, rfl, hl, hp, hc⟩ := hin.open
 clear hin
 have HI := tuck ih
 have HP := tuck hp
 have HC := tuck hc
 have HH := tuck hh
 clear ih hp hc hh
 unfold maxLen at hl
 go_enter Try.func24, Try.ntmps24
 go_wp2_with fail
 have hb0 : Below w.heap.size w (w.alloc (.cells #[.int .i64 k, .int .i64 n, .slice a l.length cap] 25)) := below1 _ _
 have hbox : (w.alloc (.cells #[.int .i64 k, .int .i64 n, .slice a l.length cap] 25)).cell? ⟨w.heap.size, 2, none⟩ = some (.slice a l.length cap) := by go_simp
 have hz0 : w.heap.size < (w.alloc (.cells #[.int .i64 k, .int .i64 n, .slice a l.length cap] 25)).heap.size := by go_simp
 generalize (w.alloc (.cells #[.int .i64 k, .int .i64 n, .slice a l.length cap] 25)) = W0 at *
 have HBOX := tuck hbox
 have HB0 := tuck hb0
 clear hbox hb0
 go_loopw [4, 3] (fun i c wr => ∃ q : Nat, q ≤ l.length ∧ i = .int .i64 q ∧ c = .int .i64 (hgts (l.take q)) ∧ Below W0.heap.size W0 wr) (fun i _ _ => l.length - (intOf i).toNat)
 case atStart => exact ⟨0, Nat.zero_le _, rfl, by simp [hgts], Below.refl _ _⟩
 case round =>
  obtain ⟨q, hq, rfl, rfl, hb⟩ := hrel
  have hbox : wr.cell? ⟨w.heap.size, 2, none⟩ = some (.slice a l.length cap) := (hb.cell (p := ⟨w.heap.size, 2, none⟩) hz0).trans HBOX.out
  by_cases hlt : q < l.length
  ·have hlti : ((q : Int) < (l.length : Int)) := by omega
   have hht := hgts_take_succ l q hlt
   have hk : l[q].hgt ≤ 1000 := (hgts_le l 1000).1 HH.out _ (List.getElem_mem hlt)
   rw [Tm.hgt_eq] at hk hht
   have hK : hgts l[q].kids ≤ 999 := by omega
   have HHT := tuck hht
   obtain ⟨rfl, _, hbw⟩ := HP.out (by intro e; rw [e] at hlt; simp at hlt)
   obtain ⟨s, c0, c1, c2, hs⟩ := HC.out q hlt
   have hbb := bAfter HB0.out hb
   replace c0 := (hbb.cell (p := ⟨b, o + q * 3, none⟩) hbw).trans c0
   replace c1 := (hbb.cell (p := ⟨b, o + q * 3 + 1, none⟩) hbw).trans c1
   replace c2 := (hbb.cell (p := ⟨b, o + q * 3 + 2, none⟩) hbw).trans c2
   have HB := tuck hb
   have HBB := tuck hbb
   have HS2 := tuck hs
   have HI' := tuck (HI.out q hlt)
   clear hb hbb hs HI hk hht
   generalize l[q] = x at *
   generalize hT : hgts (l.take q) = T at *
   have HT := tuck hT
   clear hT
   go_wp2_with (go_at_call 24; refine (HI'.out x.kind x.num _ _ (by omega) (HS2.out.below HBB.out)).mono ?_; rintro e w' ⟨rfl, hb'⟩)
   ·go_roundw
    case rel => exact ⟨q + 1, by omega, by go_num, by rw [HHT.out]; congr 1; omega, bAfter HB.out hb'⟩
    case measure => simp [intOf]; omega
   ·go_roundw
    case rel => exact ⟨q + 1, by omega, by go_num, by rw [HHT.out]; congr 1; omega, bAfter HB.out hb'⟩
    case measure => simp [intOf]; omega
  ·have hge2 : ¬ ((q : Int) < (l.length : Int)) := by omega
   have hT : (hgts (l.take q) : Int) ≤ 1000 := by
    have := HH.out
    rw [List.take_of_length_le (by omega)]
    omega
   have HB := tuck hb
   clear hb
   go_wp2
   go_ret
   exact ⟨ret_int (by rw [List.take_of_length_le (by omega)]; omega), bAfter HB0.out HB.out⟩
theorem depthS_any (t : Tm) (w : World) (v : Value) (h : TmIn w 0 t v) : Calls Try.prog 11 #[v] w (IntPost w (depthOf t)) := by
 obtain ⟨s, rfl, hs⟩ := h
 have HS := tuck hs
 clear hs
 have HV : Hid (∀ (w : World), SlIn w 0 t.kids s → Calls Try.prog 14 #[.agg #[.int .i64 t.kind, .int .i64 t.num, s]] w (BoolPost w (tr t.Valid))) := fun w h => validS_any t w _ ⟨s, rfl, h⟩
 by_cases hv : t.Valid
 ·rw [show depthOf t = t.hgt by unfold depthOf; rw [if_pos hv]]
  rw [tr_of hv] at HV
  have HC := tuck (show ∀ (w : World), SlIn w 0 t.kids s → Calls Try.prog 24 #[.agg #[.int .i64 t.kind, .int .i64 t.num, s]] w (IntPost w t.hgt) from fun w h => by have := ldepth_any t.kids t.kind t.num w s (by have := hv.2.1; have := t.hgt_eq; omega) h; rwa [show (1 : Int) + (hgts t.kids : Int) = (t.hgt : Int) by rw [Tm.hgt_eq]; omega] at this)
  clear hv
  go_enter Try.func11, Try.ntmps11
  go_wp2_with (first | (go_at_call 14; refine (HV.out _ (HS.out.below (below1 _ _))).mono ?_; rintro e w1 ⟨rfl, hb1⟩; obtain ⟨oc, of⟩ := old_cells hb1; have HB1 := tuck hb1; clear hb1) | (go_at_call 24; refine (HC.out _ (HS.out.below (bAfter (below1 _ _) HB1.out))).mono ?_; rintro e w2 ⟨rfl, hb2⟩))
  go_ret
  exact ⟨rfl, bAfter (bAfter (below1 _ _) HB1.out) hb2⟩
 ·rw [show depthOf t = 0 by unfold depthOf; rw [if_neg hv]]
  rw [tr_not hv] at HV
  go_enter Try.func11, Try.ntmps11
  go_wp2_with (go_at_call 14; refine (HV.out _ (HS.out.below (below1 _ _))).mono ?_; rintro e w1 ⟨rfl, hb1⟩; obtain ⟨oc, of⟩ := old_cells hb1; have HB1 := tuck hb1; clear hb1)
  go_ret
  exact ⟨rfl, bAfter (below1 _ _) HB1.out⟩
end Go.Proofs.Ytmgoajgjpgamcaa
