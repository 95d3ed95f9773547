/-
  TrS.
-/
import Derived.Test.YtlbikgnanabjgaaGreatQ19
import Derived.Test.YtlbikgnanabjgaaGreatQ21
import Derived.Test.YtlbikgnanabjgaaGreatQ24
import Derived.Test.YtlbikgnanabjgaaGreatQ32
import Derived.Test.YtlbikgnanabjgaaGreatQ40
import Derived.IntWalk
namespace Go.Proofs.YtlbikgnanabjgaaGreat
open Go.RowKit
set_option linter.unusedVariables false
set_option linter.unusedSimpArgs false
noncomputable def traceN : Nat → Tm → List Tm
 | 0, t => [t]
 | n + 1, t => t :: (@ite _ ((stepOut false false t).2 = 1) (Classical.propDecidable _) (traceN n (stepOut false false t).1) [])
noncomputable def traceL (t : Tm) : List Tm := @ite _ t.Valid (Classical.propDecidable _) (traceN 11 t) []
theorem traceL_yes {t : Tm} (h : t.Valid) : traceL t = traceN 11 t := if_pos h
theorem traceL_no {t : Tm} (h : ¬ t.Valid) : traceL t = [] := if_neg h
theorem traceN_go {n : Nat} {t : Tm} (h : (stepOut false false t).2 = 1) : traceN (n + 1) t = t :: traceN n (stepOut false false t).1 := by rw [traceN, if_pos h]
theorem traceN_end {n : Nat} {t : Tm} (h : (stepOut false false t).2 ≠ 1) : traceN n t = [t] := by
 cases n with
 | zero => rfl
 | succ n => rw [traceN, if_neg h]
theorem stepOut_valid {t : Tm} (h : (stepOut false false t).2 = 1) : (stepOut false false t).1.Valid := by
 unfold stepOut at h ⊢
 split
 ·rename_i hv
  rw [if_pos hv] at h
  split
  ·rename_i he
   rw [he] at h
   simp at h
  ·rename_i t' he
   rw [he] at h
   by_cases hv' : t'.Valid
   ·rw [if_pos hv']
    exact hv'
   ·simp only [if_neg hv'] at h
    omega
 ·rename_i hv
  rw [if_neg hv] at h
  simp at h
theorem so_none {t : Tm} (hv : t.Valid) (h : t.step false false = none) : (stepOut false false t).2 ≠ 1 := by
 unfold stepOut
 rw [if_pos hv, h]
 simp
theorem so_inv {t t' : Tm} (hv : t.Valid) (h : t.step false false = some t') (hn : ¬ t'.Valid) : (stepOut false false t).2 ≠ 1 := by
 unfold stepOut
 rw [if_pos hv, h]
 simp only [if_neg hn]
 decide
theorem so_yes {t t' : Tm} (hv : t.Valid) (h : t.step false false = some t') (hy : t'.Valid) : stepOut false false t = (t', 1) := by
 unfold stepOut
 rw [if_pos hv, h]
 simp only [if_pos hy]
theorem take_next {α : Type} {L r : List α} {k : Nat} {x : α} (h : L = L.take k ++ x :: r) (hk : k < L.length) : L[k]? = some x ∧ L = L.take (k + 1) ++ r ∧ L.length = k + 1 + r.length := by
 have hl : (L.take k).length = k := by rw [List.length_take]; omega
 have h1 : L[k]? = some x := by
  rw [h, List.getElem?_append_right (by rw [hl]; exact Nat.le_refl _), hl]
  simp
 refine ⟨h1, ?_, ?_⟩
 ·rw [List.take_add_one, h1]
  simpa using h
 ·have h2 := congrArg List.length h
  rw [List.length_append, hl, List.length_cons] at h2
  omega
theorem traceN_cons (n : Nat) (t : Tm) : ∃ r, traceN n t = t :: r := by
 cases n with
 | zero => exact ⟨[], rfl⟩
 | succ n => exact ⟨_, by rw [traceN]⟩
theorem traceN_all : ∀ n t, t.Valid → ∀ x ∈ traceN n t, x.Valid
 | 0, t, h, x, hx => by
  rw [traceN, List.mem_singleton] at hx
  rw [hx]
  exact h
 | n + 1, t, h, x, hx => by
  by_cases hs : (stepOut false false t).2 = 1
  ·rw [traceN_go hs, List.mem_cons] at hx
   rcases hx with rfl | hx
   ·exact h
   ·exact traceN_all n _ (stepOut_valid hs) x hx
  ·rw [traceN_end hs, List.mem_singleton] at hx
   rw [hx]
   exact h
theorem traceN_zero (n : Nat) (t : Tm) : (traceN n t)[0]? = some t := by
 cases n with
 | zero => rfl
 | succ n => rw [traceN]; rfl
theorem traceN_len : ∀ n t, 1 ≤ (traceN n t).length ∧ (traceN n t).length ≤ n + 1
 | 0, t => ⟨Nat.le_refl _, Nat.le_refl _⟩
 | n + 1, t => by
  by_cases hs : (stepOut false false t).2 = 1
  ·rw [traceN_go hs, List.length_cons]
   have := traceN_len n (stepOut false false t).1
   omega
  ·rw [traceN_end hs]
   simp
def lenOfV : Value → Nat
 | .slice _ n _ => n
 | _ => 0
def TsPost (w : World) (L : List Tm) (e : Ending) (w' : World) : Prop := Below w.heap.size w w' ∧ ∃ (a : Option Addr) (c : Nat), e = .returned (.slice a L.length c) ∧ SlIn w' w.heap.size L (.slice a L.length c)
set_option maxRecDepth 100000 in
set_option maxHeartbeats 4000000 in
theorem traceS_any (t : Tm) (w : World) (v : Value) (h : TmIn w 0 t v) : Calls Tryz.prog 7 #[v] w (TsPost w (traceL t)) := by
 obtain ⟨s, rfl, hs⟩ := h
 obtain ⟨ta, tc, rfl⟩ := hs.form
 have HS := tuck hs
 have hz2 : (w.alloc (.cells #[.int .i64 t.kind, .int .i64 t.num, .slice ta t.kids.length tc] 25)).heap.size = w.heap.size + 1 := by simp
 have hb2 := below2 w (.cells #[.int .i64 t.kind, .int .i64 t.num, .slice ta t.kids.length tc] 25) (.cells #[] 25)
 have HV0 := tuck ((VarAt.new w t.kind t.num (.slice ta t.kids.length tc)).below (below1 _ (.cells #[] 25)))
 have hr0 := RowT.nil 0 (w.heap.size + 1) ((w.alloc (.cells #[.int .i64 t.kind, .int .i64 t.num, .slice ta t.kids.length tc] 25)).alloc (.cells #[] 25))
 have hr1 := World.ownsRow_made (w.alloc (.cells #[.int .i64 t.kind, .int .i64 t.num, .slice ta t.kids.length tc] 25)) #[] 0 (base := w.heap.size + 1) (e := 25) (size := 3) (Nat.le_of_eq hz2.symm) (by simp [maxLen]) rfl
 rw [hz2] at hr1
 have HR0 : Hid (RowT 0 (w.heap.size + 1) [] (.slice (some ⟨w.heap.size + 1, 0, none⟩) 0 0) ((w.alloc (.cells #[.int .i64 t.kind, .int .i64 t.num, .slice ta t.kids.length tc] 25)).alloc (.cells #[] 25))) := tuck ⟨[], rfl, by simpa [cellsL] using hr1, fun x h => by cases h⟩
 have HB2 := tuck hb2
 have HZ2 : Hid (w.heap.size + 1 < ((w.alloc (.cells #[.int .i64 t.kind, .int .i64 t.num, .slice ta t.kids.length tc] 25)).alloc (.cells #[] 25)).heap.size) := tuck (by simp)
 clear hb2 hr0 hr1 hs hz2
 by_cases hv : t.Valid
 rotate_left
 ·have HNO : Hid (∀ w', Below w.heap.size w w' → TsPost w (traceL t) (.returned (.slice (some ⟨w.heap.size + 1, 0, none⟩) 0 0)) w') := tuck fun w' hb => by
   rw [traceL_no hv]
   exact ⟨hb, _, _, rfl, SlIn.nil _ _ _ _⟩
  have HV : Hid (∀ W, SlIn W 0 t.kids (.slice ta t.kids.length tc) → Calls Tryz.prog 16 #[.agg #[.int .i64 t.kind, .int .i64 t.num, .slice ta t.kids.length tc]] W (BoolPost W false)) := tuck fun W h => by
   have h2 := validS_any t W _ ⟨_, rfl, h⟩
   rwa [tr_not hv] at h2
  generalize TsPost w (traceL t) = post at *
  clear hv
  obtain ⟨z0, a0, a1, a2, -⟩ := HV0.out.facts
  go_enter Tryz.func7, Tryz.ntmps7
  go_wp2_with fail
  refine (HV.out _ (HS.out.below HB2.out)).mono ?_
  rintro e w1 ⟨rfl, hb1⟩
  have HB := tuck (bAfter HB2.out hb1)
  clear hb1 z0 a0 a1 a2
  go_wp2_with fail
  exact HNO.out _ HB.out
 have HV : Hid (∀ W, SlIn W 0 t.kids (.slice ta t.kids.length tc) → Calls Tryz.prog 16 #[.agg #[.int .i64 t.kind, .int .i64 t.num, .slice ta t.kids.length tc]] W (BoolPost W true)) := tuck fun W h => by
  have h2 := validS_any t W _ ⟨_, rfl, h⟩
  rwa [tr_of hv] at h2
 have HCP : Hid (∀ W, SlIn W 0 t.kids (.slice ta t.kids.length tc) → Calls Tryz.prog 17 #[.agg #[.int .i64 t.kind, .int .i64 t.num, .slice ta t.kids.length tc]] W (TlPost W t)) := tuck fun W h => tl_copyS t (by have := (valid_bounds hv).1; omega) W _ h
 have HYES : Hid (∀ (L : List Tm) w' a c, L = traceL t → Below w.heap.size w w' → SlIn w' w.heap.size L (.slice a L.length c) → TsPost w (traceL t) (.returned (.slice a L.length c)) w') := tuck fun L w' a c h h1 h2 => by
  rw [← h]
  exact ⟨h1, a, c, rfl, h2⟩
 have HTL := tuck (traceL_yes hv)
 have HTV := tuck hv
 generalize TsPost w (traceL t) = post at *
 clear hv
 obtain ⟨z0, a0, a1, a2, -⟩ := HV0.out.facts
 go_enter Tryz.func7, Tryz.ntmps7
 go_wp2_with fail
 generalize ((w.alloc (.cells #[.int .i64 t.kind, .int .i64 t.num, .slice ta t.kids.length tc] 25)).alloc (.cells #[] 25)) = W0 at *
 refine (HV.out _ (HS.out.below HB2.out)).mono ?_
 rintro e w1 ⟨rfl, hb1⟩
 have HB := tuck (bAfter HB2.out hb1)
 have HVT := tuck (HV0.out.below hb1)
 have HRW := tuck (HR0.out.below hb1)
 have HZ := tuck (Nat.lt_of_lt_of_le HZ2.out hb1.size)
 clear hb1 z0 a0 a1 a2 HB2 HV0 HR0 HZ2
 obtain ⟨z0, a0, a1, a2, -⟩ := HVT.out.facts
 go_wp2_with fail
 refine (HCP.out _ (HS.out.below HB.out)).mono ?_
 rintro e w3 ⟨hb3, ua, uc, rfl, hs3⟩
 have hbk := bAfter hb3 (below1 w3 (.cells #[.int .i64 t.kind, .int .i64 t.num, .slice ua t.kids.length uc] 25))
 have HBK := tuck hbk
 have HRK := tuck (HRW.out.below hbk)
 have HSX := tuck (hs3.below (below1 w3 (.cells #[.int .i64 t.kind, .int .i64 t.num, .slice ua t.kids.length uc] 25)))
 obtain ⟨xs, hox, hpush⟩ := HRK.out.grow (q := 0) rfl
 have HOX := tuck hox
 have HPUSH := tuck hpush
 have HLT := tuck HRW.out.lt
 have HWB : Hid (w.heap.size + 1 < w3.heap.size) := tuck (by have := hb3.size; have := HZ.out; omega)
 have HW1 : Hid (w.heap.size + 1 < w1.heap.size) := HZ
 obtain ⟨i0, hi0, hz0, hz1, hz2'⟩ := info_parts info_termG
 have HI0 := tuck hi0
 have HI1 := tuck hz0
 have HI2 := tuck hz1
 have HI3 := tuck hz2'
 clear hox hpush hbk hb3 hs3 hi0 hz0 hz1 hz2' z0 a0 a1 a2
 go_wp2_with (at_builtin; refine wpList_append_lies _ rfl _ _ _ rfl (w.heap.size + 1) 25 i0 _ 3 40 Tryz.underlying23 HI0.out HI1.out HI2.out HI3.out rfl (by omega) _ _ _ rfl HOX.out ⟨w3.heap.size, 0, none⟩ 1 1 [.int .i64 t.kind, .int .i64 t.num, .slice ua t.kids.length uc] rfl rfl ?news ?one (by omega) (by unfold maxLen; omega) (by omega) ?base (w3.heap.size + 1) ?size ?next)
 case news => exact World.news_of_block (cs := #[.int .i64 t.kind, .int .i64 t.num, .slice ua t.kids.length uc]) (t := 25) (fr := (0, 0)) (heap_new w3 _)
 case one => simp [Value.oneCell']
 case base => have := HWB.out; simp; omega
 case size => simp
 case next =>
 intro gg gcap w4 hown4 hgrow hat hlt4
 have HB4 : Hid (Below w.heap.size w w4) := tuck ((bAfter HB.out HBK.out).grown hgrow (bAfter HB.out HBK.out).size (fun g hg => by have := (HLT.out g hg).1; omega))
 have HR4 : Hid (RowT 0 (w.heap.size + 1) ([] ++ [t]) (.slice (some ⟨gg, 0, none⟩) 1 gcap) w4) := tuck (HPUSH.out _ _ w4 t (SlX.of_sl HSX.out fun i hi => by
  have h1 := HW1.out
  rcases hi with ⟨-, hi⟩ | hi
  ·omega
  ·exact (HLT.out i hi).2) hown4 hgrow (hat.imp (fun h => h.symm) (fun h => by rw [h]; simp [Value.ownBlock])))
 have HZ4 : Hid (w.heap.size + 1 < w4.heap.size) := tuck (Nat.lt_of_lt_of_le HWB.out (Nat.le_trans (by simp) hgrow.size))
 clear hown4 hgrow hat hlt4 HPUSH HOX HSX HRK HBK HRW HB HVT HLT HWB HW1 HZ
 go_wp2_with fail
 go_loopw [3] (fun out wr => ∃ (pre : List Tm) (cur : Tm) (m : Nat), pre.length + 1 + m = 12 ∧ cur.Valid ∧ traceN 11 t = pre ++ traceN m cur ∧ Below w.heap.size w wr ∧ w.heap.size + 1 < wr.heap.size ∧ RowT 0 (w.heap.size + 1) (pre ++ [cur]) out wr) (fun out _ => 12 - lenOfV out)
 case atStart => exact ⟨[], t, 11, rfl, HTV.out, rfl, HB4.out, HZ4.out, HR4.out⟩
 case round =>
  rename_i out
  obtain ⟨pre, cur, m, hm, hcv, htr, hb, hz, hrow⟩ := hrel
  have HLEN : Hid ((pre ++ [cur]).length = pre.length + 1) := tuck (by simp)
  obtain ⟨va, vc, rfl⟩ := hrow.form' HLEN.out
  have HROW := tuck hrow
  have HB := tuck hb
  have HZ := tuck hz
  have HCV := tuck hcv
  have hrd := hrow.done' HLEN.out (by unfold maxLen; omega)
  have HEND : Hid (traceN m cur = [cur] → ∀ w', Below wr.heap.size wr w' → post (.returned (.slice va (pre.length + 1) vc)) w') := tuck fun hte w' h => by
   have h1 := tl_from (hrd.less (X := fun i => i < w.heap.size) fun i hi => ⟨Nat.zero_le _, by omega⟩)
   have h2 := HYES.out (pre ++ [cur]) w' va vc (by rw [HTL.out, htr, hte]) (bAfter hb h) (by rw [HLEN.out]; exact h1.below h)
   rwa [HLEN.out] at h2
  obtain ⟨p, hp⟩ : ∃ p, p = pre.length := ⟨_, rfl⟩
  rw [← hp] at HLEN HROW HEND hm hrd ⊢
  have HPP := tuck hp
  clear hrow hb hz hp
  by_cases hm0 : m = 0
  ·have hlt : ¬ ((p : Int) + 1 < 12) := by omega
   have HE := tuck (HEND.out (by rw [hm0]; rfl))
   clear hm0 htr
   go_wp2_with fail
   exact HE.out _ (Below.refl _ _)
  have hlt : ((p : Int) + 1 < 12) := by omega
  obtain ⟨a', c', b, ofs, hsl, -, hp', hc'⟩ := hrd.open
  have hps : p < (pre ++ [cur]).length := by rw [HLEN.out]; omega
  obtain ⟨hsa, -, hbw⟩ := hp' (by simp)
  obtain ⟨sx, k0, k1, k2, hsx⟩ := hc' p hps
  have hget : (pre ++ [cur])[p] = cur := by
   have h1 := HPP.out
   subst h1
   simp
  rw [hget] at k0 k1 hsx
  obtain ⟨xa, xc, rfl⟩ := hsx.form
  rw [HLEN.out] at hsl
  simp only [Value.slice.injEq, true_and] at hsl
  obtain ⟨rfl, rfl⟩ := hsl
  subst hsa
  have HON := tuck (lone_any false cur hcv wr _ hsx.sl)
  obtain ⟨T, hT⟩ : ∃ T, T = (stepOut false false cur).1 := ⟨_, rfl⟩
  obtain ⟨code, hcode⟩ : ∃ x, x = (stepOut false false cur).2 := ⟨_, rfl⟩
  rw [← hT, ← hcode] at HON
  have HPL : Hid (p + 1 = pre.length + 1) := tuck (by rw [HPP.out])
  have HGO : Hid (code = 1 → ∃ m', m = m' + 1 ∧ T.Valid ∧ traceN 11 t = (pre ++ [cur]) ++ traceN m' T) := tuck fun hc => by
   have hc' : (stepOut false false cur).2 = 1 := by rw [← hcode]; exact hc
   obtain ⟨m', rfl⟩ : ∃ m', m = m' + 1 := ⟨m - 1, by omega⟩
   refine ⟨m', rfl, by rw [hT]; exact stepOut_valid hc', ?_⟩
   rw [htr, traceN_go hc', hT, List.append_assoc]
   rfl
  have HST2 : Hid (code ≠ 1 → ∀ w', Below wr.heap.size wr w' → post (.returned (.slice (some ⟨b, ofs, none⟩) (p + 1) vc)) w') := tuck fun hc => HEND.out (traceN_end (by rw [← hcode]; exact hc))
  obtain ⟨i0, hi0, hz0, hz1, hz2'⟩ := info_parts info_termG
  have HI0 := tuck hi0
  have HI1 := tuck hz0
  have HI2 := tuck hz1
  have HI3 := tuck hz2'
  have hpi : (0 : Int) ≤ (p : Int) := by omega
  have hpi2 : ((p : Int) < (p : Int) + 1) := by omega
  clear hrd hp' hc' hsx hget hi0 hz0 hz1 hz2' hT hcode htr HEND hm0 HCV hcv
  go_wp2_with fail
  refine HON.out.mono ?_
  rintro e w3 ⟨hb3, ua, uc, rfl, hs3⟩
  by_cases hc1 : code = 1
  rotate_left
  ·have hne : (code != 1) = true := by simpa using hc1
   have HE := tuck (HST2.out hc1 _ (bAfter hb3 (below1 w3 (.cells #[.int .i64 T.kind, .int .i64 T.num, .slice ua T.kids.length uc] 25))))
   clear hb3 hs3 hc1 k0 k1 k2
   go_wp2_with fail
   exact HE.out
  subst hc1
  obtain ⟨m', rfl, hTv, htr⟩ := HGO.out rfl
  have hbk := bAfter hb3 (below2 w3 (.cells #[.int .i64 T.kind, .int .i64 T.num, .slice ua T.kids.length uc] 25) (.cells #[.int .i64 T.kind, .int .i64 T.num, .slice ua T.kids.length uc] 25))
  have HBK := tuck hbk
  have HRK := tuck (HROW.out.below hbk)
  have HSX := tuck (hs3.below (below2 w3 (.cells #[.int .i64 T.kind, .int .i64 T.num, .slice ua T.kids.length uc] 25) (.cells #[.int .i64 T.kind, .int .i64 T.num, .slice ua T.kids.length uc] 25)))
  obtain ⟨xs, hox, hpush⟩ := HRK.out.grow HLEN.out
  have HOX := tuck hox
  have HPUSH := tuck hpush
  have HLT := tuck HROW.out.lt
  have HWB : Hid (w.heap.size + 1 < w3.heap.size) := tuck (Nat.lt_of_lt_of_le HZ.out hb3.size)
  have hq4 : p + 1 + 1 ≤ maxLen := by unfold maxLen; omega
  have hqb : (p + 1 + 1) * 40 ≤ 140737488355328 := by omega
  have HTR := tuck htr
  have HTVV := tuck hTv
  have HMM : Hid (p + 1 + 1 + m' = 12) := tuck (by omega)
  clear hox hpush hbk hb3 hs3 hTv htr k0 k1 k2 HGO HST2 hm
  go_wp2_with (at_builtin; refine wpList_append_lies _ rfl _ _ _ rfl (w.heap.size + 1) 25 i0 _ 3 40 Tryz.underlying23 HI0.out HI1.out HI2.out HI3.out rfl (by omega) _ _ _ rfl HOX.out ⟨w3.heap.size + 1, 0, none⟩ 1 1 [.int .i64 T.kind, .int .i64 T.num, .slice ua T.kids.length uc] rfl rfl ?news ?one (by omega) hq4 hqb ?base (w3.heap.size + 2) ?size ?next)
  case news => exact World.news_of_block (cs := #[.int .i64 T.kind, .int .i64 T.num, .slice ua T.kids.length uc]) (t := 25) (fr := (0, 0)) (by have := heap_new (w3.alloc (.cells #[.int .i64 T.kind, .int .i64 T.num, .slice ua T.kids.length uc] 25)) (.cells #[.int .i64 T.kind, .int .i64 T.num, .slice ua T.kids.length uc] 25); simpa using this)
  case one => simp [Value.oneCell']
  case base => have := HWB.out; simp; omega
  case size => simp
  case next =>
   intro gg gcap w4 hown4 hgrow hat hlt4
   have HB4 : Hid (Below w.heap.size w w4) := tuck ((bAfter HB.out HBK.out).grown hgrow (bAfter HB.out HBK.out).size (fun g hg => by have := (HLT.out g hg).1; omega))
   have HR4 : Hid (RowT 0 (w.heap.size + 1) ((pre ++ [cur]) ++ [T]) (.slice (some ⟨gg, 0, none⟩) (p + 1 + 1) gcap) w4) := tuck (HPUSH.out _ _ w4 T (SlX.of_sl HSX.out fun i hi => by
    have h1 := HZ.out
    have h2 := HWB.out
    rcases hi with ⟨-, hi⟩ | hi
    ·omega
    ·have := (HLT.out i hi).2
     have h3 := HBK.out.size
     simp at h3
     omega) hown4 hgrow (hat.imp (fun h => h.symm) (fun h => by rw [h]; simp [Value.ownBlock])))
   have HZ4 : Hid (w.heap.size + 1 < w4.heap.size) := tuck (Nat.lt_of_lt_of_le HWB.out (Nat.le_trans (by simp; omega) hgrow.size))
   clear hown4 hgrow hat hlt4 HPUSH HOX HSX HRK HBK
   go_wp2_with fail
   go_roundw
   case rel => exact ⟨pre ++ [cur], T, m', by rw [HLEN.out]; exact HMM.out, HTVV.out, HTR.out, HB4.out, HZ4.out, HR4.out⟩
   case measure => simp [lenOfV]; omega
end Go.Proofs.YtlbikgnanabjgaaGreat
