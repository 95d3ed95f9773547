/-
  TermDepth, the program's and the model's.
-/
import Derived.Test.YtjhjnkeildeedaaImplB
namespace Go.Proofs.Ytjhjnkeildeedaa
open Go.RowKit

theorem depthI_any (t : Tm) (w : World) (v : Value) (h : TmIn w 0 t v) : Calls Try.prog 30 #[v] w (IntPost w (depthOf t)) := by
  obtain ⟨s, rfl, hs⟩ := h
  have HS := tuck hs
  clear hs
  have hm := fun w s => measure_any t w (.agg #[.int .i64 t.kind, .int .i64 t.num, s])
  have HM : Hid (∀ (w : World), SlIn w 0 t.kids s → Calls Try.prog 50 #[.agg #[.int .i64 t.kind, .int .i64 t.num, s]] w (ValPost w (measured t))) := fun w h => measure_any t w _ ⟨s, rfl, h⟩
  by_cases hv : t.Valid
  · rw [measured_yes hv] at HM
    rw [show depthOf t = t.hgt by unfold depthOf; rw [if_pos hv]]
    go_enter Try.func30, Try.ntmps30
    go_wp2_with (go_at_call 50; refine (HM.out _ (HS.out.below (below1 _ _))).mono ?_; rintro e w1 ⟨rfl, hb1⟩; obtain ⟨oc, of⟩ := old_cells hb1; have HB1 := tuck hb1; clear hb1)
    go_ret
    exact ⟨rfl, (bAfter (below1 _ _) HB1.out).alloc (bAfter (below1 _ _) HB1.out).size _⟩
  · rw [measured_no hv] at HM
    rw [show depthOf t = 0 by unfold depthOf; rw [if_neg hv]]
    go_enter Try.func30, Try.ntmps30
    go_wp2_with (go_at_call 50; refine (HM.out _ (HS.out.below (below1 _ _))).mono ?_; rintro e w1 ⟨rfl, hb1⟩; obtain ⟨oc, of⟩ := old_cells hb1; have HB1 := tuck hb1; clear hb1)
    go_ret
    exact ⟨rfl, (bAfter (below1 _ _) HB1.out).alloc (bAfter (below1 _ _) HB1.out).size _⟩

end Go.Proofs.Ytjhjnkeildeedaa
