/-
  DuG.
-/
import Derived.Test.YtpddjebdncaceaaGreatB38
namespace Go.Proofs.YtpddjebdncaceaaGreat
open Go.RowKit
set_option linter.unusedVariables false
set_option linter.unusedSimpArgs false
def EnvForPost (l : List (Tm × Tm)) (t : Tm) (w : World) (e : Ending) (w' : World) : Prop := Below w.heap.size w w' ∧ ∃ p, e = .returned (.tuple #[.pointer p, .bool (tr (UsedOk l t))]) ∧ (UsedOk l t → EnvC l.reverse (.pointer p) w')
theorem usedOk_iff {l : List (Tm × Tm)} {t : Tm} (hd : DefsOk l) : UsedOk l t ↔ (0 ≤ maxFreeOf t ∧ maxFreeOf t ≤ (l.length : Int)) := by
 constructor
 ·rintro ⟨-, h1, h2⟩
  refine ⟨?_, h2⟩
  have h3 := h1
  unfold maxFreeOf
  rw [if_pos h3]
  have := t.most_bd 0 h1.1 (by omega)
  omega
 ·rintro ⟨h1, h2⟩
  refine ⟨hd, Classical.byContradiction fun hn => ?_, h2⟩
  unfold maxFreeOf at h1
  rw [if_neg hn] at h1
  omega
set_option maxRecDepth 100000 in
set_option maxHeartbeats 1600000 in
theorem envFor_any (l : List (Tm × Tm)) (t : Tm) (w : World) (v vt : Value) (hin : DfIn w 0 l v) (ht : TmIn w 0 t vt) : Calls Tryz.prog 37 #[v, vt] w (EnvForPost l t w) := by
 obtain ⟨s, rfl, hs⟩ := ht
 obtain ⟨ta, tc, rfl⟩ := hs.form
 have hb0 := below1 w (.cells #[.int .i64 t.kind, .int .i64 t.num, .slice ta t.kids.length tc] 34)
 have HB0 := tuck hb0
 have HVT := tuck (VarAt.new w t.kind t.num (.slice ta t.kids.length tc))
 have HEO := tuck (envOfC_any l _ v (hin.below hb0))
 obtain ⟨a, cap, rfl⟩ := hin.form
 have HS := tuck hs
 have HF : Hid (¬ UsedOk l t → ∀ W, Below w.heap.size w W → EnvForPost l t w (.returned (.tuple #[.pointer none, .bool false])) W) := tuck fun h W hb => ⟨hb, none, by rw [tr_not h], fun h2 => absurd h2 h⟩
 have HT : Hid (UsedOk l t → ∀ W p, Below w.heap.size w W → EnvC l.reverse (.pointer p) W → EnvForPost l t w (.returned (.tuple #[.pointer p, .bool true])) W) := tuck fun h W p hb he => ⟨hb, p, by rw [tr_of h], fun _ => he⟩
 generalize EnvForPost l t w = post at *
 clear hin hs hb0
 by_cases hd : DefsOk l
 ·unfold EnvPostC at HEO
  rw [tr_of hd] at HEO
  have HIF := tuck (usedOk_iff (t := t) hd)
  have HD := tuck hd
  clear hd
  go_enter Tryz.func37, Tryz.ntmps37
  go_wp2_with fail
  refine HEO.out.mono ?_
  rintro e w1 ⟨hbq, p, rfl, he⟩
  obtain ⟨z0, c0, c1, c2, cf⟩ := (HVT.out.below hbq).facts
  have hb := bAfter HB0.out hbq
  clear hbq
  have HE := tuck (he HD.out)
  have HB := tuck hb
  have HC := tuck (envCovers_any t l.length w1 (.pointer p) (.slice ta t.kids.length tc) (by have := HE.out.env; rwa [List.length_reverse] at this) (HS.out.below hb))
  obtain ⟨bb, hbb⟩ : ∃ b, b = decide (0 ≤ maxFreeOf t ∧ maxFreeOf t ≤ (l.length : Int)) := ⟨_, rfl⟩
  rw [← hbb] at HC
  have HBB := tuck hbb
  clear hb he hbb
  go_wp2_with fail
  refine HC.out.mono ?_
  rintro e w2 ⟨rfl, hb2⟩
  have HB2 := tuck (bAfter HB.out hb2)
  have HE2 := tuck (HE.out.below hb2)
  clear hb2
  cases bb with
  | true =>
   have HU := tuck (show UsedOk l t from HIF.out.2 (of_decide_eq_true HBB.out.symm))
   go_wp2_with fail
   exact HT.out HU.out _ _ HB2.out HE2.out
  | false =>
   have HU := tuck (show ¬ UsedOk l t from fun h => (of_decide_eq_false HBB.out.symm) (HIF.out.1 h))
   go_wp2_with fail
   exact HF.out HU.out _ HB2.out
 ·unfold EnvPostC at HEO
  rw [tr_not hd] at HEO
  have HU := tuck (show ¬ UsedOk l t from fun h => hd h.1)
  clear hd
  go_enter Tryz.func37, Tryz.ntmps37
  go_wp2_with fail
  refine HEO.out.mono ?_
  rintro e w1 ⟨hb, p, rfl, -⟩
  have HB := tuck (bAfter HB0.out hb)
  clear hb
  go_wp2_with fail
  exact HF.out HU.out _ HB.out
set_option maxRecDepth 100000 in
set_option maxHeartbeats 1600000 in
theorem usedDefsI_any (l : List (Tm × Tm)) (t : Tm) (w : World) (v vt : Value) (hin : DfIn w 0 l v) (ht : TmIn w 0 t vt) : Calls Tryz.prog 11 #[v, vt] w (UsOwn w (usedL l t)) := by
 obtain ⟨s, rfl, hs⟩ := ht
 obtain ⟨ta, tc, rfl⟩ := hs.form
 have hb0 := below1 w (.cells #[.int .i64 t.kind, .int .i64 t.num, .slice ta t.kids.length tc] 34)
 have HB0 := tuck hb0
 have HVT := tuck (VarAt.new w t.kind t.num (.slice ta t.kids.length tc))
 have HEF := tuck (envFor_any l t _ v _ (hin.below hb0) ⟨_, rfl, hs.below hb0⟩)
 obtain ⟨a, cap, rfl⟩ := hin.form
 have HS := tuck hs
 clear hin hs hb0
 unfold EnvForPost at HEF
 by_cases hu : UsedOk l t
 ·rw [tr_of hu] at HEF
  have HU := tuck hu
  have HG := tuck (goU_used hu)
  have HP : Hid (∀ W e W', Below w.heap.size w W → UsOwn W (usedL l t) e W' → UsOwn w (usedL l t) e W') := tuck fun W e W' hb ⟨h1, a, c, h2, h3⟩ => ⟨bAfter hb h1, a, c, h2, h3.mono hb.size⟩
  generalize hpost : UsOwn w (usedL l t) = post at HP ⊢
  clear hu hpost
  go_enter Tryz.func11, Tryz.ntmps11
  go_wp2_with fail
  refine HEF.out.mono ?_
  rintro e w1 ⟨hbq, p, rfl, he⟩
  obtain ⟨z0, c0, c1, c2, cf⟩ := (HVT.out.below hbq).facts
  have hb := bAfter HB0.out hbq
  clear hbq
  have HB := tuck hb
  have HC := tuck (usedI_any t l.reverse (by rw [List.length_reverse]; exact HU.out.1.1) w1 (.pointer p) (.slice ta t.kids.length tc) (he HU.out) (HS.out.below hb))
  rw [List.length_reverse, HG.out, List.reverse_reverse] at HC
  clear hb he
  go_wp2_with fail
  refine HC.out.mono ?_
  intro e w2 h2
  have HQ := tuck (HP.out _ _ _ HB.out h2)
  obtain ⟨-, ra, rc, rfl, -⟩ := h2
  go_wp2_with fail
  exact HQ.out
 ·rw [tr_not hu] at HEF
  have h0 : usedL l t = [] := by unfold usedL; rw [if_neg hu]
  rw [h0]
  have HP : Hid (∀ W, Below w.heap.size w W → UsOwn w [] (.returned (.slice none 0 0)) W) := tuck fun W hb => ⟨hb, none, 0, rfl, ⟨rfl, Or.inl ⟨rfl, rfl⟩⟩⟩
  generalize UsOwn w [] = post at *
  clear hu h0
  go_enter Tryz.func11, Tryz.ntmps11
  go_wp2_with fail
  refine HEF.out.mono ?_
  rintro e w1 ⟨hb, p, rfl, -⟩
  have HB := tuck (bAfter HB0.out hb)
  clear hb
  go_wp2_with fail
  exact HP.out _ HB.out
end Go.Proofs.YtpddjebdncaceaaGreat
