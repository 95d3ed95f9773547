/-
  impl.ContractTerm.
-/
import Derived.Test.YthmcgpppacodeaaContrE
namespace Go.Proofs.Ythmcgpppacodeaa
open Go.RowKit

def ContrOk (t : Tm) : Prop := t.Valid ∧ t.redex ≠ 0 ∧ t.contr.Valid

set_option maxRecDepth 100000 in
theorem contractI_any (t : Tm) (w : World) (v : Value) (h : TmIn w 0 t v) : Calls Try.prog 15 #[v] w (ReplPost w (ContrOk t) t.contr) := by
  obtain ⟨s, rfl, hs⟩ := h
  obtain ⟨a, c, rfl⟩ := hs.form
  have hb2 := below2 w (.cells #[.int .i64 t.kind, .int .i64 t.num, .slice a t.kids.length c] 28) (.cells #[.int .i64 0, .int .i64 0, .slice none 0 0] 28)
  have HV0 := tuck ((VarAt.new w t.kind t.num (.slice a t.kids.length c)).below (below1 _ (.cells #[.int .i64 0, .int .i64 0, .slice none 0 0] 28)))
  have HV1 := tuck (var_new1 w (.cells #[.int .i64 t.kind, .int .i64 t.num, .slice a t.kids.length c] 28) 0 0 (.slice none 0 0))
  have HVAL := tuck (validI_any t _ _ ⟨_, rfl, hs.below hb2⟩)
  have HB2 := tuck hb2
  have HS := tuck hs
  have HN : Hid (¬ ContrOk t → ∀ w', Below w.heap.size w w' → ReplPost w (ContrOk t) t.contr (.returned (.tuple #[.agg #[.int .i64 0, .int .i64 0, .slice none 0 0], .bool false])) w') := tuck fun h w' hb => ReplPost.no h hb
  have HY : Hid (ContrOk t → ∀ w' s F, Below w.heap.size w w' → SlOwn w' t.contr.kids s F → F.Nodup → (∀ g ∈ F, w.heap.size ≤ g ∧ g < w'.heap.size) → ReplPost w (ContrOk t) t.contr (.returned (.tuple #[.agg #[.int .i64 t.contr.kind, .int .i64 t.contr.num, s], .bool true])) w') := tuck fun h w' s F h1 h2 h3 h4 => ReplPost.yes h h1 h2 h3 h4
  clear hb2 hs
  generalize hpost : ReplPost w (ContrOk t) t.contr = post at *
  by_cases hv : t.Valid
  · rw [tr_of hv] at HVAL
    have HCON : Hid (∀ w1, Below w.heap.size w w1 → Calls Try.prog 44 #[.agg #[.int .i64 t.kind, .int .i64 t.num, .slice a t.kids.length c]] w1 (ContrPost (fun _ => False) w1 (t.redex ≠ 0 ∧ t.contr.Valid) t.contr)) := tuck fun w1 h =>
      contract_any t hv.root (fun i hi => hv.get hi) w1 (fun _ => False) (fun _ h => h.elim) _ (SlX.of_sl (HS.out.below h) (fun _ h => h.elim))
    by_cases hc : t.redex ≠ 0 ∧ t.contr.Valid
    · replace HY := tuck (HY.out ⟨hv, hc.1, hc.2⟩)
      have hsz := (valid_bounds hc.2).1
      have HCL : Hid (∀ (w1 : World) (s : Value), SlX w1 (fun _ => False) t.contr.kids s → Calls Try.prog 45 #[.agg #[.int .i64 t.contr.kind, .int .i64 t.contr.num, s]] w1 (MadePost w1 t.contr)) := tuck fun w1 s h => by
        have h2 := cloneI_any t.contr.kids t.contr.kind t.contr.num w1 s (by omega) h.sl
        rwa [Tm.eta] at h2
      clear HN hv hsz hpost HS
      go_enter Try.func15, Try.ntmps15
      go_wp2_with fail
      refine HVAL.out.mono ?_
      rintro e w1 ⟨rfl, hb1⟩
      obtain ⟨z0, a0, a1, a2, -⟩ := (HV0.out.below hb1).facts
      obtain ⟨z1, r0, r1, r2, rf⟩ := (HV1.out.below hb1).facts
      have HB1 := tuck (bAfter HB2.out hb1)
      clear hb1 HVAL
      go_wp2_with fail
      refine (HCON.out _ HB1.out).mono ?_
      rintro e w2 hpost2
      obtain ⟨U, ua, uc, rfl, hb2, hsU, hU⟩ := hpost2.open
      replace r0 := (hb2.cell (p := ⟨w.heap.size + 1, 0, none⟩) z1).trans r0
      replace r1 := (hb2.cell (p := ⟨w.heap.size + 1, 1, none⟩) z1).trans r1
      replace r2 := (hb2.cell (p := ⟨w.heap.size + 1, 2, none⟩) z1).trans r2
      have rf2 : ∀ i, w2.frozen? ⟨w.heap.size + 1, i, none⟩ = false := fun i => (hb2.frozen (p := ⟨w.heap.size + 1, i, none⟩) z1).trans (rf i)
      have z2 : w.heap.size + 1 < w2.heap.size := Nat.lt_of_lt_of_le z1 hb2.size
      have HB3 := tuck (bAfter HB1.out hb2)
      obtain rfl := hU hc
      rw [tr_of hc]
      have HSU := tuck hsU
      clear hpost2 hU hb2 hsU rf HCON hc
      generalize t.contr = T at *
      go_wp2_with fail
      have hbx := below1 w2 (.cells #[.int .i64 T.kind, .int .i64 T.num, .slice ua T.kids.length uc] 28)
      refine (HCL.out _ _ (HSU.out.below hbx)).mono ?_
      rintro e w3 ⟨hb3, tv, rfl, sv, F, rfl, hs3, hn3, hF3⟩
      obtain ⟨sa, sc, rfl⟩ := hs3.form
      have hb23 := bAfter hbx hb3
      replace r0 := (hb23.cell (p := ⟨w.heap.size + 1, 0, none⟩) z2).trans r0
      replace r1 := (hb23.cell (p := ⟨w.heap.size + 1, 1, none⟩) z2).trans r1
      replace r2 := (hb23.cell (p := ⟨w.heap.size + 1, 2, none⟩) z2).trans r2
      have rf3 : ∀ i, w3.frozen? ⟨w.heap.size + 1, i, none⟩ = false := fun i => (hb23.frozen (p := ⟨w.heap.size + 1, i, none⟩) z2).trans (rf2 i)
      have HB4 := tuck (bAfter HB3.out hb23)
      have HS3 := tuck hs3
      have HN3 := tuck hn3
      have hle : w2.heap.size ≤ (w2.alloc (.cells #[.int .i64 T.kind, .int .i64 T.num, .slice ua T.kids.length uc] 28)).heap.size := hbx.size
      have HF3 : Hid (∀ g ∈ F, w.heap.size + 1 < g ∧ g < w3.heap.size) := tuck fun g hg => ⟨Nat.lt_of_lt_of_le z2 (Nat.le_trans hle (hF3 g hg).1), (hF3 g hg).2⟩
      clear hs3 hn3 hF3 hb23 hb3 hbx hle rf2
      go_wp2_with fail
      refine bodyPost_ret (v := .tuple #[.agg #[.int .i64 T.kind, .int .i64 T.num, .slice sa T.kids.length sc], .bool true]) (by simp [results, Try.results15, go_sem, *]) rfl (HY.out _ _ F ?_ ?_ HN3.out fun g hg => ?_)
      · exact bSet3 HB4.out (Nat.le_succ _) _ _ _ _ _ _
      · exact HS3.out.set3 (fun h => by have := (HF3.out _ h).1; omega) _ _ _ _ _ _
      · rw [size_set3]
        have := HF3.out g hg
        exact ⟨by omega, this.2⟩
    · replace HN := tuck (HN.out (fun h => hc h.2))
      clear HY hv hpost HS
      go_enter Try.func15, Try.ntmps15
      go_wp2_with fail
      refine HVAL.out.mono ?_
      rintro e w1 ⟨rfl, hb1⟩
      obtain ⟨z0, a0, a1, a2, -⟩ := (HV0.out.below hb1).facts
      obtain ⟨z1, r0, r1, r2, rf⟩ := (HV1.out.below hb1).facts
      have HB1 := tuck (bAfter HB2.out hb1)
      clear hb1 HVAL
      go_wp2_with fail
      refine (HCON.out _ HB1.out).mono ?_
      rintro e w2 hpost2
      obtain ⟨U, ua, uc, rfl, hb2, hsU, hU⟩ := hpost2.open
      replace r0 := (hb2.cell (p := ⟨w.heap.size + 1, 0, none⟩) z1).trans r0
      replace r1 := (hb2.cell (p := ⟨w.heap.size + 1, 1, none⟩) z1).trans r1
      replace r2 := (hb2.cell (p := ⟨w.heap.size + 1, 2, none⟩) z1).trans r2
      have rf2 : ∀ i, w2.frozen? ⟨w.heap.size + 1, i, none⟩ = false := fun i => (hb2.frozen (p := ⟨w.heap.size + 1, i, none⟩) z1).trans (rf i)
      have z2 : w.heap.size + 1 < w2.heap.size := Nat.lt_of_lt_of_le z1 hb2.size
      have HB3 := tuck (bAfter HB1.out hb2)
      rw [tr_not hc]
      clear hpost2 hU hb2 hsU rf HCON hc
      go_wp2_with fail
      refine bodyPost_ret (v := .tuple #[.agg #[.int .i64 0, .int .i64 0, .slice none 0 0], .bool false]) (by simp [results, Try.results15, go_sem, *]) rfl (HN.out _ ?_)
      exact bAfter (bSet3 HB3.out (Nat.le_succ _) _ _ _ _ _ _) (below1 _ _)
  · rw [tr_not hv] at HVAL
    replace HN := tuck (HN.out (fun h => hv h.1))
    clear HY hv hpost HS
    go_enter Try.func15, Try.ntmps15
    go_wp2_with fail
    refine HVAL.out.mono ?_
    rintro e w1 ⟨rfl, hb1⟩
    obtain ⟨z0, a0, a1, a2, -⟩ := (HV0.out.below hb1).facts
    obtain ⟨z1, r0, r1, r2, rf⟩ := (HV1.out.below hb1).facts
    have HB1 := tuck (bAfter HB2.out hb1)
    clear hb1 HVAL
    go_wp2_with fail
    refine bodyPost_ret (v := .tuple #[.agg #[.int .i64 0, .int .i64 0, .slice none 0 0], .bool false]) (by simp [results, Try.results15, go_sem, *]) rfl (HN.out _ ?_)
    exact bSet3 HB1.out (Nat.le_succ _) _ _ _ _ _ _

end Go.Proofs.Ythmcgpppacodeaa
