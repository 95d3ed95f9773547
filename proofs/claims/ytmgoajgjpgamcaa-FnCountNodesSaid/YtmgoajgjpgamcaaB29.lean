/-
  ImplN.
-/
import Derived.Test.YtmgoajgjpgamcaaB13
namespace Go.Proofs.Ytmgoajgjpgamcaa
open Go.RowKit
theorem nodesS_any (t : Tm) (w : World) (v : Value) (h : TmIn w 0 t v) : Calls Try.prog 10 #[v] w (IntPost w (nodesOf t)) := by
 obtain ⟨s, rfl, hs⟩ := h
 have HS := tuck hs
 clear hs
 have HV : Hid (∀ (w : World), SlIn w 0 t.kids s → Calls Try.prog 14 #[.agg #[.int .i64 t.kind, .int .i64 t.num, s]] w (BoolPost w (tr t.Valid))) := fun w h => validS_any t w _ ⟨s, rfl, h⟩
 by_cases hv : t.Valid
 ·rw [show nodesOf t = t.size by unfold nodesOf; rw [if_pos hv]]
  rw [tr_of hv] at HV
  have HC := tuck (show ∀ (w : World), SlIn w 0 t.kids s → Calls Try.prog 23 #[.agg #[.int .i64 t.kind, .int .i64 t.num, s], .int .i64 400] w (IntPost w t.size) from fun w h => by have := count_any t.kids t.kind t.num 400 w s (by omega) (by omega) h; rwa [cv_le (by have := hv.2.2; have := t.size_eq; omega), ← Tm.size_eq] at this)
  clear hv
  go_enter Try.func10, Try.ntmps10
  go_wp2_with (first | (go_at_call 14; refine (HV.out _ (HS.out.below (below1 _ _))).mono ?_; rintro e w1 ⟨rfl, hb1⟩; obtain ⟨oc, of⟩ := old_cells hb1; have HB1 := tuck hb1; clear hb1) | (go_at_call 23; refine (HC.out _ (HS.out.below (bAfter (below1 _ _) HB1.out))).mono ?_; rintro e w2 ⟨rfl, hb2⟩))
  go_ret
  exact ⟨rfl, bAfter (bAfter (below1 _ _) HB1.out) hb2⟩
 ·rw [show nodesOf t = 0 by unfold nodesOf; rw [if_neg hv]]
  rw [tr_not hv] at HV
  go_enter Try.func10, Try.ntmps10
  go_wp2_with (go_at_call 14; refine (HV.out _ (HS.out.below (below1 _ _))).mono ?_; rintro e w1 ⟨rfl, hb1⟩; obtain ⟨oc, of⟩ := old_cells hb1; have HB1 := tuck hb1; clear hb1)
  go_ret
  exact ⟨rfl, bAfter (below1 _ _) HB1.out⟩
end Go.Proofs.Ytmgoajgjpgamcaa
