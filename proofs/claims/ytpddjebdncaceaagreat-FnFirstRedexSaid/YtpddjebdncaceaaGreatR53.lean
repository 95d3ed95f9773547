/-
  StepK.
-/
import Derived.Test.YtpddjebdncaceaaGreatR28
namespace Go.Proofs.YtpddjebdncaceaaGreat
open Go.RowKit
set_option maxRecDepth 100000 in
set_option maxHeartbeats 1600000 in
theorem stepTI_any (t : Tm) (w : World) (v : Value) (h : TmIn w 0 t v) : Calls Tryz.prog 28 #[v] w (CodePost w (stepOut false false t).2 (stepOut false false t).1) := by
 obtain ⟨s, rfl, hs⟩ := h
 obtain ⟨a, c, rfl⟩ := hs.form
 have hb2 := below2 w (.cells #[.int .i64 t.kind, .int .i64 t.num, .slice a t.kids.length c] 34) (.cells #[.int .i64 0, .int .i64 0, .slice none 0 0] 34)
 have HV0 := tuck ((VarAt.new w t.kind t.num (.slice a t.kids.length c)).below (below1 _ (.cells #[.int .i64 0, .int .i64 0, .slice none 0 0] 34)))
 have HV1 := tuck (var_new1 w (.cells #[.int .i64 t.kind, .int .i64 t.num, .slice a t.kids.length c] 34) 0 0 (.slice none 0 0))
 have HB2 := tuck hb2
 have HSO : Hid (∀ W, Below w.heap.size w W → Calls Tryz.prog 63 #[.agg #[.int .i64 t.kind, .int .i64 t.num, .slice a t.kids.length c], .agg #[.bool false, .bool false]] W (CodePost W (stepOut false false t).2 (stepOut false false t).1)) := tuck fun W h => stepOnce_any false false t W _ (hs.below h)
 clear hs hb2
 have HP : Hid (∀ w' s F, Below w.heap.size w w' → SlOwn w' (stepOut false false t).1.kids s F → F.Nodup → (∀ g ∈ F, w.heap.size ≤ g ∧ g < w'.heap.size) → CodePost w (stepOut false false t).2 (stepOut false false t).1 (.returned (.tuple #[.agg #[.int .i64 (stepOut false false t).1.kind, .int .i64 (stepOut false false t).1.num, s], .int .i64 (stepOut false false t).2])) w') := tuck fun w' s F h1 h2 h3 h4 => CodePost.made h1 h2 h3 h4
 generalize CodePost w (stepOut false false t).2 (stepOut false false t).1 = post at *
 generalize (stepOut false false t).1 = T at *
 generalize (stepOut false false t).2 = cc at *
 go_enter Tryz.func28, Tryz.ntmps28
 go_wp2_with fail
 generalize (w.alloc (.cells #[.int .i64 t.kind, .int .i64 t.num, .slice a t.kids.length c] 34)).alloc (.cells #[.int .i64 0, .int .i64 0, .slice none 0 0] 34) = W2 at *
 obtain ⟨z0, a0, a1, a2, -⟩ := HV0.out.facts
 go_region_with (first | (go_at_call 55; refine (outside_any _).mono ?_; rintro e w3 ⟨rfl, hb3⟩; have HB3 : Hid (Below W2.heap.size W2 w3) := tuck (bAfter (Below.refl _ _).drew hb3); obtain ⟨z3, d0, d1, d2, -⟩ := (HV0.out.below HB3.out).facts; clear hb3) | (go_at_call 63; refine (HSO.out _ (bAfter HB2.out HB3.out)).mono ?_; rintro e w4 ⟨hb4, v4, rfl, s4, F, rfl, hs4, hn4, hF4⟩; obtain ⟨ta, tc, rfl⟩ := hs4.form; obtain ⟨zr, r0, r1, r2, rf⟩ := ((HV1.out.below HB3.out).below hb4).facts; have HB4 := tuck (bAfter (bAfter HB2.out HB3.out) hb4); have HS4 := tuck hs4; have HN4 := tuck hn4; have HF4 := tuck hF4; have HZ : Hid (w.heap.size + 1 < w3.heap.size) := tuck (HV1.out.below HB3.out).facts.1; clear hb4 hs4 hn4 hF4))
 all_goals (try go_wp2_with fail)
 all_goals
  refine bodyPost_ret (v := .tuple #[.agg #[.int .i64 T.kind, .int .i64 T.num, .slice ta T.kids.length tc], .int .i64 cc]) (by simp [results, Tryz.results28, go_sem, *]) rfl (HP.out _ _ F ?_ ?_ HN4.out (fun g hg => ?_))
  ·exact bSet3 HB4.out (Nat.le_succ _) _ _ _ _ _ _
  ·exact HS4.out.set3 (fun h => by have := (HF4.out _ h).1; have := HZ.out; omega) _ _ _ _ _ _
  ·rw [size_set3]
   have := HF4.out g hg
   have := HZ.out
   omega
end Go.Proofs.YtpddjebdncaceaaGreat
