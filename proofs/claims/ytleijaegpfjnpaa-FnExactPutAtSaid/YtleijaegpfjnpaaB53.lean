/-
  TeleC.
-/
import Derived.Test.YtleijaegpfjnpaaB23
import Derived.Test.YtleijaegpfjnpaaB24
import Derived.Test.YtleijaegpfjnpaaB31
import Derived.Test.YtleijaegpfjnpaaB37
namespace Go.Proofs.Ytleijaegpfjnpaa
open Go.RowKit
set_option maxRecDepth 100000 in
theorem checked_any (t : Tm) (w : World) (s : Value) (h : SlIn w 0 t.kids s) : Calls Try.prog 44 #[.agg #[.int .i64 t.kind, .int .i64 t.num, s]] w (ReplPost w t.Valid t) := by
 obtain ⟨ta, tc, rfl⟩ := h.form
 have HS := tuck h
 have hb2 := below2 w (.cells #[.int .i64 t.kind, .int .i64 t.num, .slice ta t.kids.length tc] 29) (.cells #[.int .i64 0, .int .i64 0, .slice none 0 0] 29)
 have HV0 := tuck ((VarAt.new w t.kind t.num (.slice ta t.kids.length tc)).below (below1 _ (.cells #[.int .i64 0, .int .i64 0, .slice none 0 0] 29)))
 have HV1 := tuck (var_new1 w (.cells #[.int .i64 t.kind, .int .i64 t.num, .slice ta t.kids.length tc] 29) 0 0 (.slice none 0 0))
 have hz2 : w.heap.size + 2 ≤ ((w.alloc (.cells #[.int .i64 t.kind, .int .i64 t.num, .slice ta t.kids.length tc] 29)).alloc (.cells #[.int .i64 0, .int .i64 0, .slice none 0 0] 29)).heap.size := by simp
 have HB2 := tuck hb2
 have HZ2 := tuck hz2
 have HNO : Hid (¬ t.Valid → ∀ w', Below w.heap.size w w' → ReplPost w t.Valid t (.returned (.tuple #[.agg #[.int .i64 0, .int .i64 0, .slice none 0 0], .bool false])) w') := tuck fun h w' hb => ReplPost.no h hb
 have HYES : Hid (t.Valid → ∀ w' s F, Below w.heap.size w w' → SlOwn w' t.kids s F → F.Nodup → (∀ g ∈ F, w.heap.size ≤ g ∧ g < w'.heap.size) → ReplPost w t.Valid t (.returned (.tuple #[.agg #[.int .i64 t.kind, .int .i64 t.num, s], .bool true])) w') := tuck fun h w' s F hb hs hn hF => ReplPost.yes h hb hs hn hF
 generalize ReplPost w t.Valid t = post at *
 clear hb2 hz2 h
 go_enter Try.func44, Try.ntmps44
 go_wp2_with fail
 generalize ((w.alloc (.cells #[.int .i64 t.kind, .int .i64 t.num, .slice ta t.kids.length tc] 29)).alloc (.cells #[.int .i64 0, .int .i64 0, .slice none 0 0] 29)) = W0 at *
 refine (validI_any t W0 _ ⟨_, rfl, HS.out.below HB2.out⟩).mono ?_
 rintro e w1 ⟨rfl, hb1⟩
 obtain ⟨z0, a0, a1, a2, -⟩ := (HV0.out.below hb1).facts
 have HVR := tuck (HV1.out.below hb1)
 have HZ := tuck (Nat.le_trans HZ2.out hb1.size)
 have HB := tuck (bAfter HB2.out hb1)
 clear hb1 HV0 HV1 HB2 HZ2
 by_cases hf : t.Valid
 rotate_left
 ·rw [tr_not hf]
  have HN := tuck (HNO.out hf)
  obtain ⟨z1, r0, r1, r2, rf⟩ := HVR.out.facts
  go_wp2_with fail
  refine bodyPost_ret (v := .tuple #[.agg #[.int .i64 0, .int .i64 0, .slice none 0 0], .bool false]) (by simp [results, Try.results44, go_sem, *]) rfl (HN.out _ ?_)
  first | exact bSet3 HB.out (Nat.le_succ _) _ _ _ _ _ _ | exact HB.out
 rw [tr_of hf]
 have HY := tuck (HYES.out hf)
 have hcl := cloneI_any t.kids t.kind t.num w1 _ (by have := (valid_bounds hf).1; omega) (HS.out.below HB.out)
 rw [Tm.eta] at hcl
 have HCL := tuck hcl
 clear hcl hf HNO HYES HS
 go_wp2_with fail
 refine HCL.out.mono ?_
 rintro e w2 ⟨hb2, v, rfl, s2, F, rfl, hs2, hn2, hF2⟩
 obtain ⟨sa, sc, rfl⟩ := hs2.form
 replace HVR := tuck (HVR.out.below hb2)
 replace HB := tuck (bAfter HB.out hb2)
 have HS2 := tuck hs2
 have HN2 := tuck hn2
 have HF2 := tuck hF2
 clear hb2 hs2 hn2 hF2 HCL z0 a0 a1 a2
 obtain ⟨z1, r0, r1, r2, rf⟩ := HVR.out.facts
 go_wp2_with fail
 refine bodyPost_ret (v := .tuple #[.agg #[.int .i64 t.kind, .int .i64 t.num, .slice sa t.kids.length sc], .bool true]) (by simp [results, Try.results44, go_sem, *]) rfl (HY.out _ _ F ?_ ?_ HN2.out ?_)
 ·exact bSet3 HB.out (Nat.le_succ _) _ _ _ _ _ _
 ·exact HS2.out.set3 (fun h => by have := (HF2.out _ h).1; have := HZ.out; omega) _ _ _ _ _ _
 ·intro g hg
  have := HF2.out g hg
  have := HB.out.size
  rw [size_set3]
  have := HZ.out
  omega
end Go.Proofs.Ytleijaegpfjnpaa
