/-
  spec.RenameTerm.
-/
import Derived.Test.YtidmcenblmlhdaaSpecN
import Derived.Test.YtidmcenblmlhdaaSpecW
import Derived.Test.YtidmcenblmlhdaaRen
namespace Go.Proofs.Ytidmcenblmlhdaa
open Go.RowKit

set_option maxRecDepth 100000 in
set_option maxHeartbeats 1600000 in
theorem renS_any (t : Tm) (N : Int → Int) (len : Nat) (w : World) (v nv : Value) (hlen : len ≤ 1048576) (h : TmIn w 0 t v) (hni : Ints w 0 N len nv) : Calls Try.prog 30 #[v, nv] w (SNewPost w (RenameOk t len N) (t.rename N 0)) := by
  obtain ⟨s, rfl, hs⟩ := h
  obtain ⟨a, cap, rfl⟩ := hs.form
  have HNI := tuck hni
  obtain ⟨na, ncap, nb, no, rfl, hnp, hnc⟩ := hni
  have HS := tuck hs
  have HNP := tuck hnp
  have HNC := tuck hnc
  have HV : Hid (∀ w', Below w.heap.size w w' → Calls Try.prog 50 #[.agg #[.int .i64 t.kind, .int .i64 t.num, .slice a t.kids.length cap]] w' (BoolPost w' (tr t.Valid))) := fun w' h => validS_any t w' _ ⟨_, rfl, hs.below h⟩
  have HM : Hid (∀ w', Below w.heap.size w w' → Calls Try.prog 20 #[.agg #[.int .i64 t.kind, .int .i64 t.num, .slice a t.kids.length cap]] w' (IntPost w' (maxFreeOf t))) := fun w' h => maxFreeS_any t w' _ ⟨_, rfl, hs.below h⟩
  have HN : Hid (¬ RenameOk t len N → ∀ w', Below w.heap.size w w' → SNewPost w (RenameOk t len N) (t.rename N 0) (.returned (.tuple #[.agg #[.int .i64 0, .int .i64 0, .slice none 0 0], .bool false])) w') := fun h w' hb => SNewPost.no h hb
  clear hs hnp hnc
  by_cases hv : t.Valid
  rotate_left
  · rw [tr_not hv] at HV
    replace HN := tuck (HN.out (fun h => hv h.1))
    generalize SNewPost w (RenameOk t len N) (t.rename N 0) = post at *
    clear hv
    go_enter Try.func30, Try.ntmps30
    go_wp2_with fail
    refine (HV.out _ (below2 _ _ _)).mono ?_
    rintro e' w1 ⟨rfl, hb⟩
    have HB := tuck (bAfter (below2 _ _ _) hb)
    have hv1 := (var_new1 w (.cells #[.int .i64 t.kind, .int .i64 t.num, .slice a t.kids.length cap] 29) 0 0 (.slice none 0 0)).below hb
    have hv0 := ((VarAt.new w t.kind t.num (.slice a t.kids.length cap)).below (below1 _ (.cells #[.int .i64 0, .int .i64 0, .slice none 0 0] 29))).below hb
    obtain ⟨zv, v0, v1, v2, vf⟩ := hv1.facts
    obtain ⟨zt, t0, t1, t2, -⟩ := hv0.facts
    have HV1 := tuck hv1
    have HV0 := tuck hv0
    clear hb hv0 hv1
    go_wp2_with fail
    refine bodyPost_ret (v := .tuple #[.agg #[.int .i64 0, .int .i64 0, .slice none 0 0], .bool false]) (by simp [results, Try.results30, go_sem, *]) rfl (HN.out _ ?_)
    exact bSet3 HB.out (by omega) _ _ _ _ _ _
  rw [tr_of hv] at HV
  rw [show maxFreeOf t = t.most 0 from if_pos hv] at HM
  have hmb := most_valid hv
  by_cases h21 : len ≤ 21
  rotate_left
  · have g1 : decide ((21 : Int) < (len : Int)) = true := by simp; omega
    replace HN := tuck (HN.out (fun h => h21 h.2.1))
    clear hmb
    generalize SNewPost w (RenameOk t len N) (t.rename N 0) = post at *
    clear hv h21
    go_enter Try.func30, Try.ntmps30
    go_wp2_with fail
    refine (HV.out _ (below2 _ _ _)).mono ?_
    rintro e' w1 ⟨rfl, hb⟩
    have HB := tuck (bAfter (below2 _ _ _) hb)
    have hv1 := (var_new1 w (.cells #[.int .i64 t.kind, .int .i64 t.num, .slice a t.kids.length cap] 29) 0 0 (.slice none 0 0)).below hb
    have hv0 := ((VarAt.new w t.kind t.num (.slice a t.kids.length cap)).below (below1 _ (.cells #[.int .i64 0, .int .i64 0, .slice none 0 0] 29))).below hb
    obtain ⟨zv, v0, v1, v2, vf⟩ := hv1.facts
    obtain ⟨zt, t0, t1, t2, -⟩ := hv0.facts
    have HV1 := tuck hv1
    have HV0 := tuck hv0
    clear hb hv0 hv1
    go_wp2_with fail
    refine bodyPost_ret (v := .tuple #[.agg #[.int .i64 0, .int .i64 0, .slice none 0 0], .bool false]) (by simp [results, Try.results30, go_sem, *]) rfl (HN.out _ ?_)
    exact bSet3 HB.out (by omega) _ _ _ _ _ _
  have g1 : decide ((21 : Int) < (len : Int)) = false := by simp; omega
  by_cases hm : t.most 0 ≤ len
  rotate_left
  · have g2 : decide ((len : Int) < t.most 0) = true := by simp; omega
    replace HN := tuck (HN.out (fun h => hm h.2.2.2.1))
    generalize SNewPost w (RenameOk t len N) (t.rename N 0) = post at *
    generalize t.most 0 = mo at *
    clear hv hm hmb h21
    go_enter Try.func30, Try.ntmps30
    go_wp2_with fail
    refine (HV.out _ (below2 _ _ _)).mono ?_
    rintro e' w1 ⟨rfl, hb⟩
    have HB := tuck (bAfter (below2 _ _ _) hb)
    have hv1 := (var_new1 w (.cells #[.int .i64 t.kind, .int .i64 t.num, .slice a t.kids.length cap] 29) 0 0 (.slice none 0 0)).below hb
    have hv0 := ((VarAt.new w t.kind t.num (.slice a t.kids.length cap)).below (below1 _ (.cells #[.int .i64 0, .int .i64 0, .slice none 0 0] 29))).below hb
    obtain ⟨zv, v0, v1, v2, vf⟩ := hv1.facts
    obtain ⟨zt, t0, t1, t2, -⟩ := hv0.facts
    have HV1 := tuck hv1
    have HV0 := tuck hv0
    clear hb hv0 hv1
    go_wp2_with fail
    refine (HM.out _ HB.out).mono ?_
    rintro e' w2 ⟨rfl, hb⟩
    replace HB := tuck (bAfter HB.out hb)
    replace HV1 := tuck (HV1.out.below hb)
    replace HV0 := tuck (HV0.out.below hb)
    clear hb v0 v1 v2 vf t0 t1 t2 zv zt
    obtain ⟨zv, v0, v1, v2, vf⟩ := HV1.out.facts
    obtain ⟨zt, t0, t1, t2, -⟩ := HV0.out.facts
    go_wp2_with fail
    refine bodyPost_ret (v := .tuple #[.agg #[.int .i64 0, .int .i64 0, .slice none 0 0], .bool false]) (by simp [results, Try.results30, go_sem, *]) rfl (HN.out _ ?_)
    exact bSet3 HB.out (by omega) _ _ _ _ _ _
  have g2 : decide ((len : Int) < t.most 0) = false := by simp; omega
  obtain ⟨b1, b2⟩ := valid_bounds hv
  have hok := t.allOk_iff.1 hv.1
  have hrn := root_num2 hok.1
  have hrl := root_len hok.1
  have HSH : Hid ((∀ i : Nat, i < len → 0 ≤ N i ∧ N i ≤ 20) → ∀ w', Below w.heap.size w w' → Calls Try.prog 67 #[.agg #[.int .i64 t.kind, .int .i64 t.num, .slice a t.kids.length cap], .slice na len ncap, .int .i64 0] w' (MadePost w' (t.rename N 0))) := fun hN w' hw => by
    have := lrename_any hN (by omega) t.kids t.kind t.num 0 w' _ _ (by omega) (by omega) (by omega) (by omega) (by omega) ((allsOk_iff _).1 hok.2) (by rw [Tm.eta]; exact hm) (HS.out.below hw) (HNI.out.below hw)
    rwa [Tm.eta] at this
  have HV2 : Hid (∀ w' v', TmIn w' 0 (t.rename N 0) v' → Calls Try.prog 50 #[v'] w' (BoolPost w' (tr (t.rename N 0).Valid))) := fun w' v' h => validS_any _ w' v' h
  have HQ : Hid ((∀ i : Nat, i < len → 0 ≤ N i ∧ N i ≤ 20) → (RenameOk t len N ↔ (t.rename N 0).Valid)) := fun hN => ⟨fun h => h.2.2.2.2, fun h => ⟨hv, h21, hN, hm, h⟩⟩
  have HQN : Hid (∀ i : Nat, i < len → ¬ (0 ≤ N i ∧ N i ≤ 20) → ¬ RenameOk t len N) := fun i hi h hh => h (hh.2.2.1 i hi)
  have HY : Hid (RenameOk t len N → ∀ w' s, Below w.heap.size w w' → SlIn w' w.heap.size (t.rename N 0).kids s → SNewPost w (RenameOk t len N) (t.rename N 0) (.returned (.tuple #[.agg #[.int .i64 (t.rename N 0).kind, .int .i64 (t.rename N 0).num, s], .bool true])) w') := fun h w' s a1 a2 => SNewPost.yes h a1 a2
  generalize SNewPost w (RenameOk t len N) (t.rename N 0) = post at *
  generalize RenameOk t len N = Q at *
  generalize t.rename N 0 = T at *
  generalize t.most 0 = mo at *
  have hl1 : (len : Int) ≤ 21 := by omega
  clear hv hm hmb hok hrn hrl b1 b2 h21
  go_enter Try.func30, Try.ntmps30
  go_wp2_with fail
  refine (HV.out _ (below2 _ _ _)).mono ?_
  rintro e' w1 ⟨rfl, hb⟩
  have HB := tuck (bAfter (below2 _ _ _) hb)
  have hv1 := (var_new1 w (.cells #[.int .i64 t.kind, .int .i64 t.num, .slice a t.kids.length cap] 29) 0 0 (.slice none 0 0)).below hb
  have hv0 := ((VarAt.new w t.kind t.num (.slice a t.kids.length cap)).below (below1 _ (.cells #[.int .i64 0, .int .i64 0, .slice none 0 0] 29))).below hb
  obtain ⟨zv, v0, v1, v2, vf⟩ := hv1.facts
  obtain ⟨zt, t0, t1, t2, -⟩ := hv0.facts
  have HV1 := tuck hv1
  have HV0 := tuck hv0
  clear hb hv0 hv1
  go_wp2_with fail
  refine (HM.out _ HB.out).mono ?_
  rintro e' w2 ⟨rfl, hb⟩
  replace HB := tuck (bAfter HB.out hb)
  replace HV1 := tuck (HV1.out.below hb)
  replace HV0 := tuck (HV0.out.below hb)
  clear hb v0 v1 v2 vf t0 t1 t2 zv zt
  obtain ⟨zv, v0, v1, v2, vf⟩ := HV1.out.facts
  obtain ⟨zt, t0, t1, t2, -⟩ := HV0.out.facts
  go_wp2_with fail
  go_loopw [6] (fun i wr => ∃ q : Nat, q ≤ len ∧ i = .int .i64 q ∧ w2 = wr ∧ ∀ j : Nat, j < q → 0 ≤ N j ∧ N j ≤ 20) (fun i _ => len - (intOf i).toNat)
  case atStart => exact ⟨0, Nat.zero_le _, rfl, rfl, fun j h => by omega⟩
  case round =>
    obtain ⟨q, hq, rfl, rfl, hN⟩ := hrel
    by_cases hlt : q < len
    · have hlti : ((q : Int) < (len : Int)) := by omega
      have hqi : (0 : Int) ≤ (q : Int) := by omega
      obtain ⟨rfl, _, hbw⟩ := HNP.out (by omega)
      have c0 := (HB.out.cell (p := ⟨nb, no + q, none⟩) hbw).trans (HNC.out q hlt)
      have HNN := tuck hN
      have HX := tuck (index_any (N q))
      clear hN
      by_cases hok : 0 ≤ N q ∧ N q ≤ 20
      · have HOQ := tuck hok
        rw [show decide (0 ≤ N q ∧ N q ≤ 20) = true by simpa using hok] at HX
        clear hok
        go_wp2_with (go_at_call 55; refine (HX.out _).mono ?_; rintro e' w' ⟨rfl, rfl⟩)
        go_roundw
        case rel => exact ⟨q + 1, by omega, by go_num, by first | rfl | trivial, fun j hj => by
          by_cases e : j = q
          · subst e; exact HOQ.out
          · exact HNN.out j (by omega)⟩
        case measure => simp [intOf]; omega
      · have HNX := tuck (HN.out (HQN.out q hlt hok))
        rw [show decide (0 ≤ N q ∧ N q ≤ 20) = false by simpa using hok] at HX
        clear hok
        go_wp2_with (go_at_call 55; refine (HX.out _).mono ?_; rintro e' w' ⟨rfl, rfl⟩)
        refine bodyPost_ret (v := .tuple #[.agg #[.int .i64 0, .int .i64 0, .slice none 0 0], .bool false]) (by simp [results, Try.results30, go_sem, *]) rfl (HNX.out _ ?_)
        exact bSet3 HB.out (by omega) _ _ _ _ _ _
    · have hge2 : ¬ ((q : Int) < (len : Int)) := by omega
      have e : q = len := by omega
      subst e
      replace HSH := tuck (HSH.out hN)
      replace HQ := tuck (HQ.out hN)
      clear hN
      go_wp2_with fail
      refine (HSH.out _ HB.out).mono ?_
      rintro e' w5 ⟨hb, tv, rfl, ts, F, rfl, hso, hnd, hF⟩
      obtain ⟨ta, tc, rfl⟩ := hso.form
      have hsl : SlIn w5 (w.heap.size + 1 + 1) T.kids (.slice ta T.kids.length tc) := hso.sl (fun g hg => by have := (hF g hg).1; have := zv; omega)
      replace HB := tuck (bAfter HB.out hb)
      replace HV1 := tuck (HV1.out.below hb)
      have HSL := tuck hsl
      clear hb hso hnd hF hsl v0 v1 v2 vf t0 t1 t2 zv zt
      go_wp2_with fail
      by_cases hT : T.Valid
      · have HYY := tuck (HY.out (HQ.out.2 hT))
        rw [tr_of hT] at HV2
        clear hT
        refine (HV2.out _ _ ⟨_, rfl, (HSL.out.mono (Nat.zero_le _)).below (below1 _ _)⟩).mono ?_
        rintro e' w6 ⟨rfl, hb6⟩
        have hvo := (VarAt.new w5 T.kind T.num (.slice ta T.kids.length tc)).below hb6
        obtain ⟨zo, o0, o1, o2, -⟩ := hvo.facts
        replace HV1 := tuck ((HV1.out.below (below1 _ _)).below hb6)
        replace HSL := tuck ((HSL.out.below (below1 _ _)).below hb6)
        replace HB := tuck (bAfter HB.out (bAfter (below1 _ _) hb6))
        obtain ⟨zv, v0, v1, v2, vf⟩ := HV1.out.facts
        clear hb6 hvo
        go_wp2_with fail
        refine bodyPost_ret (v := .tuple #[.agg #[.int .i64 T.kind, .int .i64 T.num, .slice ta T.kids.length tc], .bool true]) (by simp [results, Try.results30, go_sem, *]) rfl (HYY.out _ _ ?_ ?_)
        · exact bSet3 HB.out (by omega) _ _ _ _ _ _
        · exact (HSL.out.set3 (by omega)).mono (by omega)
      · have HNX := tuck (HN.out (fun h => hT (HQ.out.1 h)))
        rw [tr_not hT] at HV2
        clear hT
        refine (HV2.out _ _ ⟨_, rfl, (HSL.out.mono (Nat.zero_le _)).below (below1 _ _)⟩).mono ?_
        rintro e' w6 ⟨rfl, hb6⟩
        have hvo := (VarAt.new w5 T.kind T.num (.slice ta T.kids.length tc)).below hb6
        obtain ⟨zo, o0, o1, o2, -⟩ := hvo.facts
        replace HV1 := tuck ((HV1.out.below (below1 _ _)).below hb6)
        replace HSL := tuck ((HSL.out.below (below1 _ _)).below hb6)
        replace HB := tuck (bAfter HB.out (bAfter (below1 _ _) hb6))
        obtain ⟨zv, v0, v1, v2, vf⟩ := HV1.out.facts
        clear hb6 hvo
        go_wp2_with fail
        refine bodyPost_ret (v := .tuple #[.agg #[.int .i64 0, .int .i64 0, .slice none 0 0], .bool false]) (by simp [results, Try.results30, go_sem, *]) rfl (HNX.out _ ?_)
        exact bSet3 HB.out (by omega) _ _ _ _ _ _

end Go.Proofs.Ytidmcenblmlhdaa
