/-
  impl's TermValid, CountNodes, TermDepth and the model's.
-/
import Derived.Test.YtmihfbopahoejaaImplA
namespace Go.Proofs.Ytmihfbopahoejaa
open Go.RowKit

/-- The nodes, or 0 of a term that is not valid; the depth likewise. -/
noncomputable def nodesOf (t : Tm) : Int := @ite _ t.Valid (Classical.propDecidable _) t.size 0
noncomputable def depthOf (t : Tm) : Int := @ite _ t.Valid (Classical.propDecidable _) t.hgt 0

theorem validI_any (t : Tm) (w : World) (v : Value) (h : TmIn w 0 t v) : Calls Try.prog 44 #[v] w (BoolPost w (tr t.Valid)) := by
  obtain ⟨s, rfl, hs⟩ := h
  have HS := tuck hs
  clear hs
  have hm := fun w s => measure_any t w (.agg #[.int .i64 t.kind, .int .i64 t.num, s])
  have HM : Hid (∀ (w : World), SlIn w 0 t.kids s → Calls Try.prog 57 #[.agg #[.int .i64 t.kind, .int .i64 t.num, s]] w (ValPost w (measured t))) := fun w h => measure_any t w _ ⟨s, rfl, h⟩
  by_cases hv : t.Valid
  · rw [measured_yes hv] at HM
    rw [tr_of hv]
    go_enter Try.func44, Try.ntmps44
    go_wp2_with (go_at_call 57; refine (HM.out _ (HS.out.below (below1 _ _))).mono ?_; rintro e w1 ⟨rfl, hb1⟩; obtain ⟨oc, of⟩ := old_cells hb1; have HB1 := tuck hb1; clear hb1)
    go_ret
    exact ⟨rfl, (bAfter (below1 _ _) HB1.out).alloc (bAfter (below1 _ _) HB1.out).size _⟩
  · rw [measured_no hv] at HM
    rw [tr_not hv]
    go_enter Try.func44, Try.ntmps44
    go_wp2_with (go_at_call 57; refine (HM.out _ (HS.out.below (below1 _ _))).mono ?_; rintro e w1 ⟨rfl, hb1⟩; obtain ⟨oc, of⟩ := old_cells hb1; have HB1 := tuck hb1; clear hb1)
    go_ret
    exact ⟨rfl, (bAfter (below1 _ _) HB1.out).alloc (bAfter (below1 _ _) HB1.out).size _⟩

theorem nodesI_any (t : Tm) (w : World) (v : Value) (h : TmIn w 0 t v) : Calls Try.prog 20 #[v] w (IntPost w (nodesOf t)) := by
  obtain ⟨s, rfl, hs⟩ := h
  have HS := tuck hs
  clear hs
  have hm := fun w s => measure_any t w (.agg #[.int .i64 t.kind, .int .i64 t.num, s])
  have HM : Hid (∀ (w : World), SlIn w 0 t.kids s → Calls Try.prog 57 #[.agg #[.int .i64 t.kind, .int .i64 t.num, s]] w (ValPost w (measured t))) := fun w h => measure_any t w _ ⟨s, rfl, h⟩
  by_cases hv : t.Valid
  · rw [measured_yes hv] at HM
    rw [show nodesOf t = t.size by unfold nodesOf; rw [if_pos hv]]
    go_enter Try.func20, Try.ntmps20
    go_wp2_with (go_at_call 57; refine (HM.out _ (HS.out.below (below1 _ _))).mono ?_; rintro e w1 ⟨rfl, hb1⟩; obtain ⟨oc, of⟩ := old_cells hb1; have HB1 := tuck hb1; clear hb1)
    go_ret
    exact ⟨rfl, (bAfter (below1 _ _) HB1.out).alloc (bAfter (below1 _ _) HB1.out).size _⟩
  · rw [measured_no hv] at HM
    rw [show nodesOf t = 0 by unfold nodesOf; rw [if_neg hv]]
    go_enter Try.func20, Try.ntmps20
    go_wp2_with (go_at_call 57; refine (HM.out _ (HS.out.below (below1 _ _))).mono ?_; rintro e w1 ⟨rfl, hb1⟩; obtain ⟨oc, of⟩ := old_cells hb1; have HB1 := tuck hb1; clear hb1)
    go_ret
    exact ⟨rfl, (bAfter (below1 _ _) HB1.out).alloc (bAfter (below1 _ _) HB1.out).size _⟩

end Go.Proofs.Ytmihfbopahoejaa
