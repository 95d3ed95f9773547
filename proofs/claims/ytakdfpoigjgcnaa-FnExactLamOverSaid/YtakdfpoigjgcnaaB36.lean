/-
  TeleI.
-/
import Derived.Test.YtakdfpoigjgcnaaB35
namespace Go.Proofs.Ytakdfpoigjgcnaa
open Go.RowKit
set_option maxRecDepth 100000 in
theorem piOverI_any (l : List Tm) (t : Tm) (w : World) (v tv : Value) (hl : SlIn w 0 l v) (ht : TmIn w 0 t tv) : Calls Try.prog 15 #[v, tv] w (ReplPost w (OverOk 3 l t) (over 3 l t)) := by
 obtain ⟨s, rfl, hs⟩ := ht
 obtain ⟨ta, tc, rfl⟩ := hs.form
 obtain ⟨a, cap, rfl⟩ := hl.form
 have hb2 := below2 w (.cells #[.int .i64 t.kind, .int .i64 t.num, .slice ta t.kids.length tc] 29) (.cells #[.int .i64 0, .int .i64 0, .slice none 0 0] 29)
 have HV1 := tuck (var_new1 w (.cells #[.int .i64 t.kind, .int .i64 t.num, .slice ta t.kids.length tc] 29) 0 0 (.slice none 0 0))
 have hz2 : w.heap.size + 2 ≤ ((w.alloc (.cells #[.int .i64 t.kind, .int .i64 t.num, .slice ta t.kids.length tc] 29)).alloc (.cells #[.int .i64 0, .int .i64 0, .slice none 0 0] 29)).heap.size := by simp
 have HB2 := tuck hb2
 have HZ2 := tuck hz2
 have HC := tuck (foldR_any 3 l t ((w.alloc (.cells #[.int .i64 t.kind, .int .i64 t.num, .slice ta t.kids.length tc] 29)).alloc (.cells #[.int .i64 0, .int .i64 0, .slice none 0 0] 29)) _ _ (hl.below hb2) (hs.below hb2))
 have HYES : Hid (∀ w' s F, Below w.heap.size w w' → SlOwn w' (orZero (OverOk 3 l t) (over 3 l t)).kids s F → F.Nodup → (∀ g ∈ F, w.heap.size ≤ g ∧ g < w'.heap.size) → ReplPost w (OverOk 3 l t) (over 3 l t) (.returned (.tuple #[.agg #[.int .i64 (orZero (OverOk 3 l t) (over 3 l t)).kind, .int .i64 (orZero (OverOk 3 l t) (over 3 l t)).num, s], .bool (tr (OverOk 3 l t))])) w') := tuck fun w' s F hb hs hn hF => ⟨hb, _, rfl, s, F, rfl, hs, hn, hF⟩
 generalize hpost : ReplPost w (OverOk 3 l t) (over 3 l t) = post at *
 unfold ReplPost at HC
 generalize orZero (OverOk 3 l t) (over 3 l t) = R at *
 generalize tr (OverOk 3 l t) = ok at *
 clear hpost hb2 hz2 hl hs
 go_enter Try.func15, Try.ntmps15
 go_wp2_with fail
 generalize ((w.alloc (.cells #[.int .i64 t.kind, .int .i64 t.num, .slice ta t.kids.length tc] 29)).alloc (.cells #[.int .i64 0, .int .i64 0, .slice none 0 0] 29)) = W0 at *
 refine HC.out.mono ?_
 rintro e w2 ⟨hb2, v, rfl, s2, F, rfl, hs2, hn2, hF2⟩
 obtain ⟨sa, sc, rfl⟩ := hs2.form
 have HS2 := tuck hs2
 have HN2 := tuck hn2
 have HF2 := tuck hF2
 have HG2 := tuck (HV1.out.below hb2)
 have HBE := tuck (bAfter HB2.out hb2)
 have HZE : Hid (w.heap.size + 2 ≤ W0.heap.size ∧ W0.heap.size ≤ w2.heap.size) := tuck ⟨HZ2.out, hb2.size⟩
 clear hb2 hs2 hn2 hF2
 obtain ⟨z1, r0, r1, r2, rf⟩ := HG2.out.facts
 go_wp2_with fail
 refine bodyPost_ret (v := .tuple #[.agg #[.int .i64 R.kind, .int .i64 R.num, .slice sa R.kids.length sc], .bool ok]) (by simp [results, Try.results15, go_sem, *]) rfl (HYES.out _ _ F ?_ ?_ HN2.out ?_)
 ·exact bSet3 HBE.out (Nat.le_succ _) _ _ _ _ _ _
 ·exact HS2.out.set3 (fun h => by have := (HF2.out _ h).1; have := HZE.out; omega) _ _ _ _ _ _
 ·intro g hg
  have := HF2.out g hg
  rw [size_set3]
  have := HZE.out
  omega
set_option maxRecDepth 100000 in
theorem lamOverI_any (l : List Tm) (t : Tm) (w : World) (v tv : Value) (hl : SlIn w 0 l v) (ht : TmIn w 0 t tv) : Calls Try.prog 22 #[v, tv] w (ReplPost w (OverOk 4 l t) (over 4 l t)) := by
 obtain ⟨s, rfl, hs⟩ := ht
 obtain ⟨ta, tc, rfl⟩ := hs.form
 obtain ⟨a, cap, rfl⟩ := hl.form
 have hb2 := below2 w (.cells #[.int .i64 t.kind, .int .i64 t.num, .slice ta t.kids.length tc] 29) (.cells #[.int .i64 0, .int .i64 0, .slice none 0 0] 29)
 have HV1 := tuck (var_new1 w (.cells #[.int .i64 t.kind, .int .i64 t.num, .slice ta t.kids.length tc] 29) 0 0 (.slice none 0 0))
 have hz2 : w.heap.size + 2 ≤ ((w.alloc (.cells #[.int .i64 t.kind, .int .i64 t.num, .slice ta t.kids.length tc] 29)).alloc (.cells #[.int .i64 0, .int .i64 0, .slice none 0 0] 29)).heap.size := by simp
 have HB2 := tuck hb2
 have HZ2 := tuck hz2
 have HC := tuck (foldR_any 4 l t ((w.alloc (.cells #[.int .i64 t.kind, .int .i64 t.num, .slice ta t.kids.length tc] 29)).alloc (.cells #[.int .i64 0, .int .i64 0, .slice none 0 0] 29)) _ _ (hl.below hb2) (hs.below hb2))
 have HYES : Hid (∀ w' s F, Below w.heap.size w w' → SlOwn w' (orZero (OverOk 4 l t) (over 4 l t)).kids s F → F.Nodup → (∀ g ∈ F, w.heap.size ≤ g ∧ g < w'.heap.size) → ReplPost w (OverOk 4 l t) (over 4 l t) (.returned (.tuple #[.agg #[.int .i64 (orZero (OverOk 4 l t) (over 4 l t)).kind, .int .i64 (orZero (OverOk 4 l t) (over 4 l t)).num, s], .bool (tr (OverOk 4 l t))])) w') := tuck fun w' s F hb hs hn hF => ⟨hb, _, rfl, s, F, rfl, hs, hn, hF⟩
 generalize hpost : ReplPost w (OverOk 4 l t) (over 4 l t) = post at *
 unfold ReplPost at HC
 generalize orZero (OverOk 4 l t) (over 4 l t) = R at *
 generalize tr (OverOk 4 l t) = ok at *
 clear hpost hb2 hz2 hl hs
 go_enter Try.func22, Try.ntmps22
 go_wp2_with fail
 generalize ((w.alloc (.cells #[.int .i64 t.kind, .int .i64 t.num, .slice ta t.kids.length tc] 29)).alloc (.cells #[.int .i64 0, .int .i64 0, .slice none 0 0] 29)) = W0 at *
 refine HC.out.mono ?_
 rintro e w2 ⟨hb2, v, rfl, s2, F, rfl, hs2, hn2, hF2⟩
 obtain ⟨sa, sc, rfl⟩ := hs2.form
 have HS2 := tuck hs2
 have HN2 := tuck hn2
 have HF2 := tuck hF2
 have HG2 := tuck (HV1.out.below hb2)
 have HBE := tuck (bAfter HB2.out hb2)
 have HZE : Hid (w.heap.size + 2 ≤ W0.heap.size ∧ W0.heap.size ≤ w2.heap.size) := tuck ⟨HZ2.out, hb2.size⟩
 clear hb2 hs2 hn2 hF2
 obtain ⟨z1, r0, r1, r2, rf⟩ := HG2.out.facts
 go_wp2_with fail
 refine bodyPost_ret (v := .tuple #[.agg #[.int .i64 R.kind, .int .i64 R.num, .slice sa R.kids.length sc], .bool ok]) (by simp [results, Try.results22, go_sem, *]) rfl (HYES.out _ _ F ?_ ?_ HN2.out ?_)
 ·exact bSet3 HBE.out (Nat.le_succ _) _ _ _ _ _ _
 ·exact HS2.out.set3 (fun h => by have := (HF2.out _ h).1; have := HZE.out; omega) _ _ _ _ _ _
 ·intro g hg
  have := HF2.out g hg
  rw [size_set3]
  have := HZE.out
  omega
end Go.Proofs.Ytakdfpoigjgcnaa
