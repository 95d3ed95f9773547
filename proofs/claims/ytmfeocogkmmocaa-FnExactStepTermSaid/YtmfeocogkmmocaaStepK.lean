/-
  impl.StepTerm, impl.StepInner.
-/
import Derived.Test.YtmfeocogkmmocaaStepJ
namespace Go.Proofs.Ytmfeocogkmmocaa
open Go.RowKit

set_option maxRecDepth 100000 in
theorem fromInside_any (w : World) : Calls Try.prog 44 #[] w fun e w' => e = .returned (.agg #[.bool true, .bool false]) ∧ Below w.heap.size w w' := by
  go_enter Try.func44, Try.ntmps44
  go_wp2_with fail
  refine bodyPost_ret (v := .agg #[.bool true, .bool false]) (by simp [results, Try.results44, go_sem, *]) rfl ⟨rfl, ?_⟩
  first | exact below1 _ _ | exact ((below1 _ _).setCell (Nat.le_refl _) _).setCell (Nat.le_refl _) _ | exact (below1 _ _).setCell (Nat.le_refl _) _

set_option maxRecDepth 100000 in
theorem atHead_any (w : World) : Calls Try.prog 48 #[] w fun e w' => e = .returned (.agg #[.bool false, .bool true]) ∧ Below w.heap.size w w' := by
  go_enter Try.func48, Try.ntmps48
  go_wp2_with fail
  refine bodyPost_ret (v := .agg #[.bool false, .bool true]) (by simp [results, Try.results48, go_sem, *]) rfl ⟨rfl, ?_⟩
  first | exact below1 _ _ | exact ((below1 _ _).setCell (Nat.le_refl _) _).setCell (Nat.le_refl _) _ | exact (below1 _ _).setCell (Nat.le_refl _) _

set_option maxRecDepth 100000 in
set_option maxHeartbeats 1600000 in
theorem stepTI_any (t : Tm) (w : World) (v : Value) (h : TmIn w 0 t v) : Calls Try.prog 15 #[v] w (CodePost w (stepOut false false t).2 (stepOut false false t).1) := by
  obtain ⟨s, rfl, hs⟩ := h
  obtain ⟨a, c, rfl⟩ := hs.form
  have hb2 := below2 w (.cells #[.int .i64 t.kind, .int .i64 t.num, .slice a t.kids.length c] 28) (.cells #[.int .i64 0, .int .i64 0, .slice none 0 0] 28)
  have HV0 := tuck ((VarAt.new w t.kind t.num (.slice a t.kids.length c)).below (below1 _ (.cells #[.int .i64 0, .int .i64 0, .slice none 0 0] 28)))
  have HV1 := tuck (var_new1 w (.cells #[.int .i64 t.kind, .int .i64 t.num, .slice a t.kids.length c] 28) 0 0 (.slice none 0 0))
  have HB2 := tuck hb2
  have HSO : Hid (∀ W, Below w.heap.size w W → Calls Try.prog 42 #[.agg #[.int .i64 t.kind, .int .i64 t.num, .slice a t.kids.length c], .agg #[.bool false, .bool false]] W (CodePost W (stepOut false false t).2 (stepOut false false t).1)) := tuck fun W h => stepOnce_any false false t W _ (hs.below h)
  clear hs hb2
  have HP : Hid (∀ w' s F, Below w.heap.size w w' → SlOwn w' (stepOut false false t).1.kids s F → F.Nodup → (∀ g ∈ F, w.heap.size ≤ g ∧ g < w'.heap.size) → CodePost w (stepOut false false t).2 (stepOut false false t).1 (.returned (.tuple #[.agg #[.int .i64 (stepOut false false t).1.kind, .int .i64 (stepOut false false t).1.num, s], .int .i64 (stepOut false false t).2])) w') := tuck fun w' s F h1 h2 h3 h4 => CodePost.made h1 h2 h3 h4
  generalize CodePost w (stepOut false false t).2 (stepOut false false t).1 = post at *
  generalize (stepOut false false t).1 = T at *
  generalize (stepOut false false t).2 = cc at *
  go_enter Try.func15, Try.ntmps15
  go_wp2_with fail
  generalize (w.alloc (.cells #[.int .i64 t.kind, .int .i64 t.num, .slice a t.kids.length c] 28)).alloc (.cells #[.int .i64 0, .int .i64 0, .slice none 0 0] 28) = W2 at *
  obtain ⟨z0, a0, a1, a2, -⟩ := HV0.out.facts
  go_region_with (first | (go_at_call 43; refine (outside_any _).mono ?_; rintro e w3 ⟨rfl, hb3⟩; have HB3 : Hid (Below W2.heap.size W2 w3) := tuck (bAfter (Below.refl _ _).drew hb3); obtain ⟨z3, d0, d1, d2, -⟩ := (HV0.out.below HB3.out).facts; clear hb3) | (go_at_call 42; refine (HSO.out _ (bAfter HB2.out HB3.out)).mono ?_; rintro e w4 ⟨hb4, v4, rfl, s4, F, rfl, hs4, hn4, hF4⟩; obtain ⟨ta, tc, rfl⟩ := hs4.form; obtain ⟨zr, r0, r1, r2, rf⟩ := ((HV1.out.below HB3.out).below hb4).facts; have HB4 := tuck (bAfter (bAfter HB2.out HB3.out) hb4); have HS4 := tuck hs4; have HN4 := tuck hn4; have HF4 := tuck hF4; have HZ : Hid (w.heap.size + 1 < w3.heap.size) := tuck (HV1.out.below HB3.out).facts.1; clear hb4 hs4 hn4 hF4))
  all_goals (try go_wp2_with fail)
  all_goals
    refine bodyPost_ret (v := .tuple #[.agg #[.int .i64 T.kind, .int .i64 T.num, .slice ta T.kids.length tc], .int .i64 cc]) (by simp [results, Try.results15, go_sem, *]) rfl (HP.out _ _ F ?_ ?_ HN4.out (fun g hg => ?_))
    · exact bSet3 HB4.out (Nat.le_succ _) _ _ _ _ _ _
    · exact HS4.out.set3 (fun h => by have := (HF4.out _ h).1; have := HZ.out; omega) _ _ _ _ _ _
    · rw [size_set3]
      have := HF4.out g hg
      have := HZ.out
      omega

set_option maxRecDepth 100000 in
set_option maxHeartbeats 1600000 in
theorem stepNI_any (t : Tm) (w : World) (v : Value) (h : TmIn w 0 t v) : Calls Try.prog 20 #[v] w (CodePost w (stepOut true false t).2 (stepOut true false t).1) := by
  obtain ⟨s, rfl, hs⟩ := h
  obtain ⟨a, c, rfl⟩ := hs.form
  have hb2 := below2 w (.cells #[.int .i64 t.kind, .int .i64 t.num, .slice a t.kids.length c] 28) (.cells #[.int .i64 0, .int .i64 0, .slice none 0 0] 28)
  have HV0 := tuck ((VarAt.new w t.kind t.num (.slice a t.kids.length c)).below (below1 _ (.cells #[.int .i64 0, .int .i64 0, .slice none 0 0] 28)))
  have HV1 := tuck (var_new1 w (.cells #[.int .i64 t.kind, .int .i64 t.num, .slice a t.kids.length c] 28) 0 0 (.slice none 0 0))
  have HB2 := tuck hb2
  have HSO : Hid (∀ W, Below w.heap.size w W → Calls Try.prog 42 #[.agg #[.int .i64 t.kind, .int .i64 t.num, .slice a t.kids.length c], .agg #[.bool true, .bool false]] W (CodePost W (stepOut true false t).2 (stepOut true false t).1)) := tuck fun W h => stepOnce_any true false t W _ (hs.below h)
  clear hs hb2
  have HP : Hid (∀ w' s F, Below w.heap.size w w' → SlOwn w' (stepOut true false t).1.kids s F → F.Nodup → (∀ g ∈ F, w.heap.size ≤ g ∧ g < w'.heap.size) → CodePost w (stepOut true false t).2 (stepOut true false t).1 (.returned (.tuple #[.agg #[.int .i64 (stepOut true false t).1.kind, .int .i64 (stepOut true false t).1.num, s], .int .i64 (stepOut true false t).2])) w') := tuck fun w' s F h1 h2 h3 h4 => CodePost.made h1 h2 h3 h4
  generalize CodePost w (stepOut true false t).2 (stepOut true false t).1 = post at *
  generalize (stepOut true false t).1 = T at *
  generalize (stepOut true false t).2 = cc at *
  go_enter Try.func20, Try.ntmps20
  go_wp2_with fail
  generalize (w.alloc (.cells #[.int .i64 t.kind, .int .i64 t.num, .slice a t.kids.length c] 28)).alloc (.cells #[.int .i64 0, .int .i64 0, .slice none 0 0] 28) = W2 at *
  obtain ⟨z0, a0, a1, a2, -⟩ := HV0.out.facts
  go_region_with (first | (go_at_call 44; refine (fromInside_any _).mono ?_; rintro e w3 ⟨rfl, hb3⟩; have HB3 : Hid (Below W2.heap.size W2 w3) := tuck (bAfter (Below.refl _ _).drew hb3); obtain ⟨z3, d0, d1, d2, -⟩ := (HV0.out.below HB3.out).facts; clear hb3) | (go_at_call 42; refine (HSO.out _ (bAfter HB2.out HB3.out)).mono ?_; rintro e w4 ⟨hb4, v4, rfl, s4, F, rfl, hs4, hn4, hF4⟩; obtain ⟨ta, tc, rfl⟩ := hs4.form; obtain ⟨zr, r0, r1, r2, rf⟩ := ((HV1.out.below HB3.out).below hb4).facts; have HB4 := tuck (bAfter (bAfter HB2.out HB3.out) hb4); have HS4 := tuck hs4; have HN4 := tuck hn4; have HF4 := tuck hF4; have HZ : Hid (w.heap.size + 1 < w3.heap.size) := tuck (HV1.out.below HB3.out).facts.1; clear hb4 hs4 hn4 hF4))
  all_goals (try go_wp2_with fail)
  all_goals
    refine bodyPost_ret (v := .tuple #[.agg #[.int .i64 T.kind, .int .i64 T.num, .slice ta T.kids.length tc], .int .i64 cc]) (by simp [results, Try.results20, go_sem, *]) rfl (HP.out _ _ F ?_ ?_ HN4.out (fun g hg => ?_))
    · exact bSet3 HB4.out (Nat.le_succ _) _ _ _ _ _ _
    · exact HS4.out.set3 (fun h => by have := (HF4.out _ h).1; have := HZ.out; omega) _ _ _ _ _ _
    · rw [size_set3]
      have := HF4.out g hg
      have := HZ.out
      omega

end Go.Proofs.Ytmfeocogkmmocaa
