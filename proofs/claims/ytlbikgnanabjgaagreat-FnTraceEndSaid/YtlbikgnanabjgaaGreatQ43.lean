/-
  Py, Pw.
-/
import Derived.Test.YtlbikgnanabjgaaGreatQ42
namespace Go.Proofs.YtlbikgnanabjgaaGreat
open Go.RowKit
def SW (s : ByteArray) (w : World) (e : Ending) (w' : World) : Prop :=
 Below w.heap.size w w' ∧ ∃ (l : List Tm) (a : Option Addr) (c : Nat) (nx : Int), e = .returned (.tuple #[.slice a l.length c, .int .i64 nx]) ∧ SlIn w' w.heap.size l (.slice a l.length c) ∧ -1 ≤ nx ∧ nx ≤ s.size
set_option maxRecDepth 100000 in
set_option maxHeartbeats 8000000 in
theorem seriesW (s : ByteArray) (hs : s.size ≤ 1152921504606846976) (d : Nat) (hrec : WParse s d) (last : Int) (many : Nat) (hm4 : many ≤ 4) (a : Nat) (ha : a ≤ s.size) (w : World) :
  Calls Tryz.prog 81 #[.string s, .int .i64 a, .int .i64 d, .int .i64 many, .int .u8 last] w (SW s w) := by
 have HREC : Hid (∀ (A : Nat) W, A ≤ s.size → Calls Tryz.prog 61 #[.string s, .int .i64 A, .int .i64 d] W (PW s W)) := tuck fun A W h => hrec A W (by omega) (by omega)
 have HNO : Hid (∀ w', Below w.heap.size w w' → SW s w (.returned (.tuple #[.slice none 0 0, .int .i64 (-1)])) w') := tuck fun w' hb => ⟨hb, [], none, 0, -1, rfl, SlIn.nil _ _ _ _, by omega⟩
 have HYES : Hid (∀ (l : List Tm) (A : Nat) (w' : World) (av : Option Addr) (c : Nat), A ≤ s.size → Below w.heap.size w w' → SlIn w' w.heap.size l (.slice av l.length c) → SW s w (.returned (.tuple #[.slice av l.length c, .int .i64 A])) w') := tuck fun l A w' av c hA hb hs' => ⟨hb, l, av, c, A, rfl, hs', by omega⟩
 generalize SW s w = post at *
 clear hrec
 go_enter Tryz.func81, Tryz.ntmps81
 go_wp2_with fail
 have HB0 := tuck (below1 w (.cells #[] 25))
 have HROW0 : Hid (RowY (fun i => i < w.heap.size) w.heap.size [] (.slice (some ⟨w.heap.size, 0, none⟩) 0 0) (w.alloc (.cells #[] 25))) := tuck ⟨[], rfl, World.ownsRow_lit w #[] 0 (Nat.le_refl _) (by simp [maxLen]) (by simp), fun x h => (by cases h)⟩
 generalize w.alloc (.cells #[] 25) = W0 at *
 go_loopw [1, 12, 13] (fun at_ out i wr => ∃ (q A : Nat) (pre : List Tm), q ≤ many ∧ pre.length = q ∧ i = .int .i64 q ∧ at_ = .int .i64 A ∧ A ≤ s.size ∧ Below w.heap.size w wr ∧ RowY (fun i => i < w.heap.size) w.heap.size pre out wr) (fun _ _ i _ => many - (intOf i).toNat)
 case atStart => exact ⟨0, a, [], Nat.zero_le _, rfl, rfl, rfl, ha, HB0.out, HROW0.out⟩
 case round =>
  obtain ⟨q, A, pre, hq, hpre, rfl, rfl, hA, hb, hrow⟩ := hrel
  have HB := tuck hb
  have HROW := tuck hrow
  have HPRE := tuck hpre
  obtain ⟨va, vc, rfl⟩ := HROW.out.form' hpre
  have HSZ : Hid (w.heap.size ≤ wr.heap.size) := tuck HB.out.size
  clear hb hrow hpre HB0 HROW0
  by_cases hlt : q < many
  ·have hlti : decide ((q : Int) < (many : Int)) = true := decide_eq_true (by omega)
   go_wp2_with fail
   refine (HREC.out A _ hA).mono ?_
   rintro e w3 ⟨hb3, T, ta, tc, nx, rfl, hs3, hm⟩
   have hbx := below1 w3 (.cells #[.int .i64 T.kind, .int .i64 T.num, .slice ta T.kids.length tc] 25)
   have HB3 := tuck (bAfter HB.out (bAfter hb3 hbx))
   have HVT := tuck (VarAt.new w3 T.kind T.num (.slice ta T.kids.length tc))
   have HS3 := tuck (hs3.below hbx)
   have HBX := tuck (bAfter hb3 hbx)
   clear hb3 hs3 hbx
   by_cases h0 : nx < 0
   ·have kn : decide (nx < 0) = true := decide_eq_true h0
    go_wp2_with fail
    exact HNO.out _ HB3.out
   by_cases h1 : (s.size : Int) ≤ nx
   ·have kn : decide (nx < 0) = false := decide_eq_false h0
    have kg : decide ((s.size : Int) ≤ nx) = true := decide_eq_true h1
    go_wp2_with fail
    exact HNO.out _ HB3.out
   obtain ⟨n, rfl⟩ : ∃ n : Nat, nx = n := ⟨nx.toNat, by omega⟩
   have hl : n < s.size := by omega
   have kn : decide ((n : Int) < 0) = false := decide_eq_false (by omega)
   have kg : decide ((s.size : Int) ≤ (n : Int)) = false := decide_eq_false (by omega)
   have ki : (n : Int) < (s.size : Int) := by omega
   clear h0 h1
   by_cases hq1 : q + 1 < many
   ·have k1 : decide ((q : Int) + 1 < (many : Int)) = true := decide_eq_true (by omega)
    have k2 : ((q : Int) + 1 == (many : Int)) = false := by rw [beq_eq_false_iff_ne]; omega
    by_cases hc : (s[n].toNat : Int) = 44
    ·have k3 : ((s[n].toNat : Int) != 44) = false := by rw [bne_eq_false_iff_eq]; exact hc
     obtain ⟨zv, v0, v1, v2, vf⟩ := HVT.out.facts
     have hq4 : q + 1 ≤ maxLen := by unfold maxLen; omega
     have hqb : (q + 1) * 40 ≤ 140737488355328 := by omega
     obtain ⟨i0, hi0, hz0, hz1, hz2⟩ := info_parts info_termG
     have HI0 := tuck hi0
     have HI1 := tuck hz0
     have HI2 := tuck hz1
     have HI3 := tuck hz2
     have hbk := below1 (w3.alloc (.cells #[.int .i64 T.kind, .int .i64 T.num, .slice ta T.kids.length tc] 25)) (.cells #[.int .i64 T.kind, .int .i64 T.num, .slice ta T.kids.length tc] 25)
     have HROW4 := tuck ((HROW.out.below HBX.out).below hbk)
     have HBK := tuck (bAfter HB3.out hbk)
     have HS4 := tuck (HS3.out.below hbk)
     obtain ⟨xs, hox, hpush⟩ := HROW4.out.grow HPRE.out
     have HOX := tuck hox
     have HPUSH := tuck hpush
     have HLT := tuck HROW.out.lt
     clear hox hpush hbk hi0 hz0 hz1 hz2
     go_wp2_with (at_builtin; refine wpList_append_lies _ rfl _ _ _ rfl w.heap.size 25 i0 _ 3 40 Tryz.underlying23 HI0.out HI1.out HI2.out HI3.out rfl (by omega) _ _ _ rfl HOX.out ⟨w3.heap.size + 1, 0, none⟩ 1 1 [.int .i64 T.kind, .int .i64 T.num, .slice ta T.kids.length tc] rfl rfl ?news ?one (by omega) hq4 hqb ?base (w3.heap.size + 1 + 1) ?size ?next)
     case news =>
      have h := World.news_of_block (w := (w3.alloc (.cells #[.int .i64 T.kind, .int .i64 T.num, .slice ta T.kids.length tc] 25)).alloc (.cells #[.int .i64 T.kind, .int .i64 T.num, .slice ta T.kids.length tc] 25)) (cs := #[.int .i64 T.kind, .int .i64 T.num, .slice ta T.kids.length tc]) (t := 25) (fr := (0, 0)) (heap_new (w3.alloc (.cells #[.int .i64 T.kind, .int .i64 T.num, .slice ta T.kids.length tc] 25)) _)
      simpa using h
     case one => simp [Value.oneCell']
     case base => have := HB3.out.size; simp at this ⊢; omega
     case size => simp
     case next =>
      intro gg gcap w4 hown4 hgrow hat hlt4
      have HGR := tuck hgrow
      have HOWN := tuck hown4
      have HAT := tuck hat
      clear hgrow hown4 hat
      go_wp2_with fail
      go_roundw
      case rel =>
       refine ⟨q + 1, n + 1, pre ++ [T], by omega, by rw [List.length_append, HPRE.out]; rfl, by go_num, by go_num, by omega, ?_, ?_⟩
       ·exact HBK.out.grown HGR.out HBK.out.size (fun g hg => (HLT.out g hg).1)
       ·refine HPUSH.out _ _ w4 T (SlX.of_sl (B := wr.heap.size) HS4.out (fun j hj => ?_)) HOWN.out HGR.out (HAT.out.imp (fun h => h.symm) (fun h => by rw [h]; simp [Value.ownBlock]))
        have hsz := HSZ.out
        rcases hj with h | h
        ·omega
        ·exact (HLT.out j h).2
      case measure => simp [intOf]; omega
    ·have k3 : ((s[n].toNat : Int) != 44) = true := by rw [bne_iff_ne]; exact hc
     go_wp2_with fail
     exact HNO.out _ HB3.out
   ·have k1 : decide ((q : Int) + 1 < (many : Int)) = false := decide_eq_false (by omega)
    have k2 : ((q : Int) + 1 == (many : Int)) = true := by rw [beq_iff_eq]; omega
    by_cases hc : (s[n].toNat : Int) = last
    ·have k3 : ((s[n].toNat : Int) != last) = false := by rw [bne_eq_false_iff_eq]; exact hc
     obtain ⟨zv, v0, v1, v2, vf⟩ := HVT.out.facts
     have hq4 : q + 1 ≤ maxLen := by unfold maxLen; omega
     have hqb : (q + 1) * 40 ≤ 140737488355328 := by omega
     obtain ⟨i0, hi0, hz0, hz1, hz2⟩ := info_parts info_termG
     have HI0 := tuck hi0
     have HI1 := tuck hz0
     have HI2 := tuck hz1
     have HI3 := tuck hz2
     have hbk := below1 (w3.alloc (.cells #[.int .i64 T.kind, .int .i64 T.num, .slice ta T.kids.length tc] 25)) (.cells #[.int .i64 T.kind, .int .i64 T.num, .slice ta T.kids.length tc] 25)
     have HROW4 := tuck ((HROW.out.below HBX.out).below hbk)
     have HBK := tuck (bAfter HB3.out hbk)
     have HS4 := tuck (HS3.out.below hbk)
     obtain ⟨xs, hox, hpush⟩ := HROW4.out.grow HPRE.out
     have HOX := tuck hox
     have HPUSH := tuck hpush
     have HLT := tuck HROW.out.lt
     clear hox hpush hbk hi0 hz0 hz1 hz2
     go_wp2_with (at_builtin; refine wpList_append_lies _ rfl _ _ _ rfl w.heap.size 25 i0 _ 3 40 Tryz.underlying23 HI0.out HI1.out HI2.out HI3.out rfl (by omega) _ _ _ rfl HOX.out ⟨w3.heap.size + 1, 0, none⟩ 1 1 [.int .i64 T.kind, .int .i64 T.num, .slice ta T.kids.length tc] rfl rfl ?news ?one (by omega) hq4 hqb ?base (w3.heap.size + 1 + 1) ?size ?next)
     case news =>
      have h := World.news_of_block (w := (w3.alloc (.cells #[.int .i64 T.kind, .int .i64 T.num, .slice ta T.kids.length tc] 25)).alloc (.cells #[.int .i64 T.kind, .int .i64 T.num, .slice ta T.kids.length tc] 25)) (cs := #[.int .i64 T.kind, .int .i64 T.num, .slice ta T.kids.length tc]) (t := 25) (fr := (0, 0)) (heap_new (w3.alloc (.cells #[.int .i64 T.kind, .int .i64 T.num, .slice ta T.kids.length tc] 25)) _)
      simpa using h
     case one => simp [Value.oneCell']
     case base => have := HB3.out.size; simp at this ⊢; omega
     case size => simp
     case next =>
      intro gg gcap w4 hown4 hgrow hat hlt4
      have HGR := tuck hgrow
      have HOWN := tuck hown4
      have HAT := tuck hat
      clear hgrow hown4 hat
      go_wp2_with fail
      go_roundw
      case rel =>
       refine ⟨q + 1, n + 1, pre ++ [T], by omega, by rw [List.length_append, HPRE.out]; rfl, by go_num, by go_num, by omega, ?_, ?_⟩
       ·exact HBK.out.grown HGR.out HBK.out.size (fun g hg => (HLT.out g hg).1)
       ·refine HPUSH.out _ _ w4 T (SlX.of_sl (B := wr.heap.size) HS4.out (fun j hj => ?_)) HOWN.out HGR.out (HAT.out.imp (fun h => h.symm) (fun h => by rw [h]; simp [Value.ownBlock]))
        have hsz := HSZ.out
        rcases hj with h | h
        ·omega
        ·exact (HLT.out j h).2
      case measure => simp [intOf]; omega
    ·have k3 : ((s[n].toNat : Int) != last) = true := by rw [bne_iff_ne]; exact hc
     go_wp2_with fail
     exact HNO.out _ HB3.out
  ·have hlti : decide ((q : Int) < (many : Int)) = false := decide_eq_false (by omega)
   have hsl : SlX wr (fun i => i < w.heap.size) pre (.slice va pre.length vc) := by
    rw [HPRE.out]
    exact HROW.out.done (by rw [HPRE.out]; unfold maxLen; omega) (fun j hj => hj)
   have HEND := tuck (HYES.out pre A wr va vc hA HB.out hsl.from)
   rw [HPRE.out] at HEND
   clear hsl HYES HNO
   go_wp2_with fail
   exact HEND.out
end Go.Proofs.YtlbikgnanabjgaaGreat
namespace Go.Proofs.YtlbikgnanabjgaaGreat
open Go.RowKit
set_option maxRecDepth 100000 in
set_option maxHeartbeats 8000000 in
theorem blockW (s : ByteArray) (hs : s.size ≤ 1152921504606846976) (d : Nat) (hd : d ≤ 100) (hrec : WParse s d) (a : Nat) (ha : a < s.size) (w : World) :
  Calls Tryz.prog 73 #[.string s, .int .i64 a, .int .i64 ((d + 1 : Nat) : Int)] w (PW s w) := by
 have HP : Hid (∀ (T : Tm) (nx : Int) (w' : World) (a' : Option Addr) (c' : Nat), Below w.heap.size w w' → SlIn w' w.heap.size T.kids (.slice a' T.kids.length c') → -1 ≤ nx ∧ nx ≤ s.size → PW s w (.returned (.tuple #[.agg #[.int .i64 T.kind, .int .i64 T.num, .slice a' T.kids.length c'], .int .i64 nx])) w') := tuck fun T nx w' a' c' hb hs' hm => ⟨hb, T, a', c', nx, rfl, hs', hm⟩
 generalize PW s w = post at *
 have HB1 := tuck (below1 w (.cells #[.int .i64 0, .int .i64 0, .slice none 0 0] 25))
 have HV1 := tuck (VarAt.new w 0 0 (.slice none 0 0))
 have hai : (a : Int) < (s.size : Int) := by omega
 have hds : (d : Int) + 1 - 1 = (d : Int) := by omega
 have HK : Hid (∀ (K : Int) (W : World), K = 9 ∨ K = 10 ∨ K = 12 ∨ K = 14 → Calls Tryz.prog 48 #[.int .i64 K] W fun e w' => ∃ m : Nat, m ≤ 4 ∧ e = .returned (.int .i64 m) ∧ W = w') := tuck fun K W h => by
  rcases h with rfl | rfl | rfl | rfl
  all_goals
   refine (kids_any _ W).mono ?_
   rintro e w' ⟨rfl, rfl⟩
   first
   | exact ⟨4, by decide, rfl, rfl⟩
   | exact ⟨3, by decide, rfl, rfl⟩
 have HS : Hid (∀ (st : Int) (m : Nat) (last : Int) W, (0 : Int) ≤ st → st ≤ (s.size : Int) → m ≤ 4 → Calls Tryz.prog 81 #[.string s, .int .i64 st, .int .i64 d, .int .i64 m, .int .u8 last] W (SW s W)) := tuck fun st m last W h0 h1 hm4 => by
  obtain ⟨b, rfl⟩ : ∃ b : Nat, st = b := ⟨st.toNat, by omega⟩
  exact seriesW s hs d hrec last m hm4 b (by omega) W
 clear hrec
 by_cases h2 : a + 1 < s.size
 ·have k0 : decide ((s.size : Int) < (a : Int) + 2) = false := decide_eq_false (by omega)
  have k0' : (a : Int) + 1 < (s.size : Int) := by omega
  have k0'' : (0 : Int) ≤ (a : Int) + 1 := by omega
  go_enter Tryz.func73, Tryz.ntmps73
  go_wp2_with fail
  all_goals first
  | (refine bodyPost_ret (v := .tuple #[.agg #[.int .i64 0, .int .i64 0, .slice none 0 0], .int .i64 (-1)]) ?_ rfl (HP.out zeroT (-1) _ none 0 ?_ (SlIn.nil _ _ _ _) (by omega)); (focus (simp [results, Tryz.results73, go_sem, *]; done)); first | exact bSet3 HB1.out (Nat.le_refl _) _ _ _ _ _ _ | exact HB1.out)
  | (
   generalize w.alloc (.cells #[.int .i64 0, .int .i64 0, .slice none 0 0] 25) = W1 at *
   refine (HK.out _ _ (by decide)).mono ?_
   rintro e w2 ⟨m, hm4, rfl, rfl⟩
   go_wp2_with fail
   refine (HS.out _ _ _ _ (by omega) (by omega) hm4).mono ?_
   rintro e w3 ⟨hb3, l, la, lc, nx, rfl, hs3, hm⟩
   have hzz := HV1.out.facts.1
   obtain ⟨z1, r0, r1, r2, rf⟩ := (HV1.out.below hb3).facts
   have HB3 := tuck (bAfter HB1.out hb3)
   have HS3 : Hid (SlIn w3 (w.heap.size + 1) l (.slice la l.length lc)) := tuck (hs3.mono hzz)
   have HM := tuck hm
   clear hb3 hs3 hm hzz
   go_wp2_with fail
   first
   | (refine bodyPost_ret (v := .tuple #[.agg #[.int .i64 9, .int .i64 0, .slice la l.length lc], .int .i64 nx]) ?_ rfl (HP.out (.mk 9 0 l) nx _ la lc (bSet3 HB3.out (Nat.le_refl _) _ _ _ _ _ _) ((SlIn.set3 HS3.out (Nat.lt_succ_self _)).mono (Nat.le_succ _)) HM.out); simp [results, Tryz.results73, go_sem, *]; done)
   | (refine bodyPost_ret (v := .tuple #[.agg #[.int .i64 10, .int .i64 0, .slice la l.length lc], .int .i64 nx]) ?_ rfl (HP.out (.mk 10 0 l) nx _ la lc (bSet3 HB3.out (Nat.le_refl _) _ _ _ _ _ _) ((SlIn.set3 HS3.out (Nat.lt_succ_self _)).mono (Nat.le_succ _)) HM.out); simp [results, Tryz.results73, go_sem, *]; done)
   | (refine bodyPost_ret (v := .tuple #[.agg #[.int .i64 14, .int .i64 0, .slice la l.length lc], .int .i64 nx]) ?_ rfl (HP.out (.mk 14 0 l) nx _ la lc (bSet3 HB3.out (Nat.le_refl _) _ _ _ _ _ _) ((SlIn.set3 HS3.out (Nat.lt_succ_self _)).mono (Nat.le_succ _)) HM.out); simp [results, Tryz.results73, go_sem, *]; done)
   | (refine bodyPost_ret (v := .tuple #[.agg #[.int .i64 12, .int .i64 0, .slice la l.length lc], .int .i64 nx]) ?_ rfl (HP.out (.mk 12 0 l) nx _ la lc (bSet3 HB3.out (Nat.le_refl _) _ _ _ _ _ _) ((SlIn.set3 HS3.out (Nat.lt_succ_self _)).mono (Nat.le_succ _)) HM.out); simp [results, Tryz.results73, go_sem, *]; done))
 ·have k0 : decide ((s.size : Int) < (a : Int) + 2) = true := decide_eq_true (by omega)
  go_enter Tryz.func73, Tryz.ntmps73
  go_wp2_with fail
  all_goals first
  | (refine bodyPost_ret (v := .tuple #[.agg #[.int .i64 0, .int .i64 0, .slice none 0 0], .int .i64 (-1)]) ?_ rfl (HP.out zeroT (-1) _ none 0 ?_ (SlIn.nil _ _ _ _) (by omega)); (focus (simp [results, Tryz.results73, go_sem, *]; done)); first | exact bSet3 HB1.out (Nat.le_refl _) _ _ _ _ _ _ | exact HB1.out)
  | (
   generalize w.alloc (.cells #[.int .i64 0, .int .i64 0, .slice none 0 0] 25) = W1 at *
   refine (HK.out _ _ (by decide)).mono ?_
   rintro e w2 ⟨m, hm4, rfl, rfl⟩
   go_wp2_with fail
   refine (HS.out _ _ _ _ (by omega) (by omega) hm4).mono ?_
   rintro e w3 ⟨hb3, l, la, lc, nx, rfl, hs3, hm⟩
   have hzz := HV1.out.facts.1
   obtain ⟨z1, r0, r1, r2, rf⟩ := (HV1.out.below hb3).facts
   have HB3 := tuck (bAfter HB1.out hb3)
   have HS3 : Hid (SlIn w3 (w.heap.size + 1) l (.slice la l.length lc)) := tuck (hs3.mono hzz)
   have HM := tuck hm
   clear hb3 hs3 hm hzz
   go_wp2_with fail
   first
   | (refine bodyPost_ret (v := .tuple #[.agg #[.int .i64 9, .int .i64 0, .slice la l.length lc], .int .i64 nx]) ?_ rfl (HP.out (.mk 9 0 l) nx _ la lc (bSet3 HB3.out (Nat.le_refl _) _ _ _ _ _ _) ((SlIn.set3 HS3.out (Nat.lt_succ_self _)).mono (Nat.le_succ _)) HM.out); simp [results, Tryz.results73, go_sem, *]; done)
   | (refine bodyPost_ret (v := .tuple #[.agg #[.int .i64 10, .int .i64 0, .slice la l.length lc], .int .i64 nx]) ?_ rfl (HP.out (.mk 10 0 l) nx _ la lc (bSet3 HB3.out (Nat.le_refl _) _ _ _ _ _ _) ((SlIn.set3 HS3.out (Nat.lt_succ_self _)).mono (Nat.le_succ _)) HM.out); simp [results, Tryz.results73, go_sem, *]; done)
   | (refine bodyPost_ret (v := .tuple #[.agg #[.int .i64 14, .int .i64 0, .slice la l.length lc], .int .i64 nx]) ?_ rfl (HP.out (.mk 14 0 l) nx _ la lc (bSet3 HB3.out (Nat.le_refl _) _ _ _ _ _ _) ((SlIn.set3 HS3.out (Nat.lt_succ_self _)).mono (Nat.le_succ _)) HM.out); simp [results, Tryz.results73, go_sem, *]; done)
   | (refine bodyPost_ret (v := .tuple #[.agg #[.int .i64 12, .int .i64 0, .slice la l.length lc], .int .i64 nx]) ?_ rfl (HP.out (.mk 12 0 l) nx _ la lc (bSet3 HB3.out (Nat.le_refl _) _ _ _ _ _ _) ((SlIn.set3 HS3.out (Nat.lt_succ_self _)).mono (Nat.le_succ _)) HM.out); simp [results, Tryz.results73, go_sem, *]; done))
end Go.Proofs.YtlbikgnanabjgaaGreat
