/-
  ContrI, DrawA, StepK.
-/
import Derived.Test.YtabbbnddfcbdiaaGreatB17
import Derived.Test.YtabbbnddfcbdiaaGreatC07
import Derived.Test.YtabbbnddfcbdiaaGreatC11
import Derived.Test.YtabbbnddfcbdiaaGreatB36
namespace Go.Proofs.YtabbbnddfcbdiaaGreat
open Go.RowKit
set_option maxRecDepth 100000 in
theorem fromInside_any (w : World) : Calls Tryz.prog 50 #[] w fun e w' => e = .returned (.agg #[.bool true, .bool false]) ∧ Below w.heap.size w w' := by
 go_enter Tryz.func50, Tryz.ntmps50
 go_wp2_with fail
 refine bodyPost_ret (v := .agg #[.bool true, .bool false]) (by simp [results, Tryz.results50, go_sem, *]) rfl ⟨rfl, ?_⟩
 first | exact below1 _ _ | exact ((below1 _ _).setCell (Nat.le_refl _) _).setCell (Nat.le_refl _) _ | exact (below1 _ _).setCell (Nat.le_refl _) _
set_option maxRecDepth 100000 in
theorem atHead_any (w : World) : Calls Tryz.prog 70 #[] w fun e w' => e = .returned (.agg #[.bool false, .bool true]) ∧ Below w.heap.size w w' := by
 go_enter Tryz.func70, Tryz.ntmps70
 go_wp2_with fail
 refine bodyPost_ret (v := .agg #[.bool false, .bool true]) (by simp [results, Tryz.results70, go_sem, *]) rfl ⟨rfl, ?_⟩
 first | exact below1 _ _ | exact ((below1 _ _).setCell (Nat.le_refl _) _).setCell (Nat.le_refl _) _ | exact (below1 _ _).setCell (Nat.le_refl _) _
set_option maxRecDepth 100000 in
set_option maxHeartbeats 1600000 in
theorem stepTI_any (t : Tm) (w : World) (v : Value) (h : TmIn w 0 t v) : Calls Tryz.prog 21 #[v] w (CodePost w (stepOut false false t).2 (stepOut false false t).1) := by
 obtain ⟨s, rfl, hs⟩ := h
 obtain ⟨a, c, rfl⟩ := hs.form
 have hb2 := below2 w (.cells #[.int .i64 t.kind, .int .i64 t.num, .slice a t.kids.length c] 25) (.cells #[.int .i64 0, .int .i64 0, .slice none 0 0] 25)
 have HV0 := tuck ((VarAt.new w t.kind t.num (.slice a t.kids.length c)).below (below1 _ (.cells #[.int .i64 0, .int .i64 0, .slice none 0 0] 25)))
 have HV1 := tuck (var_new1 w (.cells #[.int .i64 t.kind, .int .i64 t.num, .slice a t.kids.length c] 25) 0 0 (.slice none 0 0))
 have HB2 := tuck hb2
 have HSO : Hid (∀ W, Below w.heap.size w W → Calls Tryz.prog 57 #[.agg #[.int .i64 t.kind, .int .i64 t.num, .slice a t.kids.length c], .agg #[.bool false, .bool false]] W (CodePost W (stepOut false false t).2 (stepOut false false t).1)) := tuck fun W h => stepOnce_any false false t W _ (hs.below h)
 clear hs hb2
 have HP : Hid (∀ w' s F, Below w.heap.size w w' → SlOwn w' (stepOut false false t).1.kids s F → F.Nodup → (∀ g ∈ F, w.heap.size ≤ g ∧ g < w'.heap.size) → CodePost w (stepOut false false t).2 (stepOut false false t).1 (.returned (.tuple #[.agg #[.int .i64 (stepOut false false t).1.kind, .int .i64 (stepOut false false t).1.num, s], .int .i64 (stepOut false false t).2])) w') := tuck fun w' s F h1 h2 h3 h4 => CodePost.made h1 h2 h3 h4
 generalize CodePost w (stepOut false false t).2 (stepOut false false t).1 = post at *
 generalize (stepOut false false t).1 = T at *
 generalize (stepOut false false t).2 = cc at *
 go_enter Tryz.func21, Tryz.ntmps21
 go_wp2_with fail
 generalize (w.alloc (.cells #[.int .i64 t.kind, .int .i64 t.num, .slice a t.kids.length c] 25)).alloc (.cells #[.int .i64 0, .int .i64 0, .slice none 0 0] 25) = W2 at *
 obtain ⟨z0, a0, a1, a2, -⟩ := HV0.out.facts
 go_region_with (first | (go_at_call 49; refine (outside_any _).mono ?_; rintro e w3 ⟨rfl, hb3⟩; have HB3 : Hid (Below W2.heap.size W2 w3) := tuck (bAfter (Below.refl _ _).drew hb3); obtain ⟨z3, d0, d1, d2, -⟩ := (HV0.out.below HB3.out).facts; clear hb3) | (go_at_call 57; refine (HSO.out _ (bAfter HB2.out HB3.out)).mono ?_; rintro e w4 ⟨hb4, v4, rfl, s4, F, rfl, hs4, hn4, hF4⟩; obtain ⟨ta, tc, rfl⟩ := hs4.form; obtain ⟨zr, r0, r1, r2, rf⟩ := ((HV1.out.below HB3.out).below hb4).facts; have HB4 := tuck (bAfter (bAfter HB2.out HB3.out) hb4); have HS4 := tuck hs4; have HN4 := tuck hn4; have HF4 := tuck hF4; have HZ : Hid (w.heap.size + 1 < w3.heap.size) := tuck (HV1.out.below HB3.out).facts.1; clear hb4 hs4 hn4 hF4))
 all_goals (try go_wp2_with fail)
 all_goals
  refine bodyPost_ret (v := .tuple #[.agg #[.int .i64 T.kind, .int .i64 T.num, .slice ta T.kids.length tc], .int .i64 cc]) (by simp [results, Tryz.results21, go_sem, *]) rfl (HP.out _ _ F ?_ ?_ HN4.out (fun g hg => ?_))
  ·exact bSet3 HB4.out (Nat.le_succ _) _ _ _ _ _ _
  ·exact HS4.out.set3 (fun h => by have := (HF4.out _ h).1; have := HZ.out; omega) _ _ _ _ _ _
  ·rw [size_set3]
   have := HF4.out g hg
   have := HZ.out
   omega
set_option maxRecDepth 100000 in
set_option maxHeartbeats 1600000 in
theorem stepNI_any (t : Tm) (w : World) (v : Value) (h : TmIn w 0 t v) : Calls Tryz.prog 27 #[v] w (CodePost w (stepOut true false t).2 (stepOut true false t).1) := by
 obtain ⟨s, rfl, hs⟩ := h
 obtain ⟨a, c, rfl⟩ := hs.form
 have hb2 := below2 w (.cells #[.int .i64 t.kind, .int .i64 t.num, .slice a t.kids.length c] 25) (.cells #[.int .i64 0, .int .i64 0, .slice none 0 0] 25)
 have HV0 := tuck ((VarAt.new w t.kind t.num (.slice a t.kids.length c)).below (below1 _ (.cells #[.int .i64 0, .int .i64 0, .slice none 0 0] 25)))
 have HV1 := tuck (var_new1 w (.cells #[.int .i64 t.kind, .int .i64 t.num, .slice a t.kids.length c] 25) 0 0 (.slice none 0 0))
 have HB2 := tuck hb2
 have HSO : Hid (∀ W, Below w.heap.size w W → Calls Tryz.prog 57 #[.agg #[.int .i64 t.kind, .int .i64 t.num, .slice a t.kids.length c], .agg #[.bool true, .bool false]] W (CodePost W (stepOut true false t).2 (stepOut true false t).1)) := tuck fun W h => stepOnce_any true false t W _ (hs.below h)
 clear hs hb2
 have HP : Hid (∀ w' s F, Below w.heap.size w w' → SlOwn w' (stepOut true false t).1.kids s F → F.Nodup → (∀ g ∈ F, w.heap.size ≤ g ∧ g < w'.heap.size) → CodePost w (stepOut true false t).2 (stepOut true false t).1 (.returned (.tuple #[.agg #[.int .i64 (stepOut true false t).1.kind, .int .i64 (stepOut true false t).1.num, s], .int .i64 (stepOut true false t).2])) w') := tuck fun w' s F h1 h2 h3 h4 => CodePost.made h1 h2 h3 h4
 generalize CodePost w (stepOut true false t).2 (stepOut true false t).1 = post at *
 generalize (stepOut true false t).1 = T at *
 generalize (stepOut true false t).2 = cc at *
 go_enter Tryz.func27, Tryz.ntmps27
 go_wp2_with fail
 generalize (w.alloc (.cells #[.int .i64 t.kind, .int .i64 t.num, .slice a t.kids.length c] 25)).alloc (.cells #[.int .i64 0, .int .i64 0, .slice none 0 0] 25) = W2 at *
 obtain ⟨z0, a0, a1, a2, -⟩ := HV0.out.facts
 go_region_with (first | (go_at_call 50; refine (fromInside_any _).mono ?_; rintro e w3 ⟨rfl, hb3⟩; have HB3 : Hid (Below W2.heap.size W2 w3) := tuck (bAfter (Below.refl _ _).drew hb3); obtain ⟨z3, d0, d1, d2, -⟩ := (HV0.out.below HB3.out).facts; clear hb3) | (go_at_call 57; refine (HSO.out _ (bAfter HB2.out HB3.out)).mono ?_; rintro e w4 ⟨hb4, v4, rfl, s4, F, rfl, hs4, hn4, hF4⟩; obtain ⟨ta, tc, rfl⟩ := hs4.form; obtain ⟨zr, r0, r1, r2, rf⟩ := ((HV1.out.below HB3.out).below hb4).facts; have HB4 := tuck (bAfter (bAfter HB2.out HB3.out) hb4); have HS4 := tuck hs4; have HN4 := tuck hn4; have HF4 := tuck hF4; have HZ : Hid (w.heap.size + 1 < w3.heap.size) := tuck (HV1.out.below HB3.out).facts.1; clear hb4 hs4 hn4 hF4))
 all_goals (try go_wp2_with fail)
 all_goals
  refine bodyPost_ret (v := .tuple #[.agg #[.int .i64 T.kind, .int .i64 T.num, .slice ta T.kids.length tc], .int .i64 cc]) (by simp [results, Tryz.results27, go_sem, *]) rfl (HP.out _ _ F ?_ ?_ HN4.out (fun g hg => ?_))
  ·exact bSet3 HB4.out (Nat.le_succ _) _ _ _ _ _ _
  ·exact HS4.out.set3 (fun h => by have := (HF4.out _ h).1; have := HZ.out; omega) _ _ _ _ _ _
  ·rw [size_set3]
   have := HF4.out g hg
   have := HZ.out
   omega
end Go.Proofs.YtabbbnddfcbdiaaGreat
namespace Go.Proofs.YtabbbnddfcbdiaaGreat
open Go.RowKit
def ContrOk (t : Tm) : Prop := t.Valid ∧ t.redex ≠ 0 ∧ t.contr.Valid
set_option maxRecDepth 100000 in
theorem contractI_any (t : Tm) (w : World) (v : Value) (h : TmIn w 0 t v) : Calls Tryz.prog 30 #[v] w (ReplPost w (ContrOk t) t.contr) := by
 obtain ⟨s, rfl, hs⟩ := h
 obtain ⟨a, c, rfl⟩ := hs.form
 have hb2 := below2 w (.cells #[.int .i64 t.kind, .int .i64 t.num, .slice a t.kids.length c] 25) (.cells #[.int .i64 0, .int .i64 0, .slice none 0 0] 25)
 have HV0 := tuck ((VarAt.new w t.kind t.num (.slice a t.kids.length c)).below (below1 _ (.cells #[.int .i64 0, .int .i64 0, .slice none 0 0] 25)))
 have HV1 := tuck (var_new1 w (.cells #[.int .i64 t.kind, .int .i64 t.num, .slice a t.kids.length c] 25) 0 0 (.slice none 0 0))
 have HVAL := tuck (validI_any t _ _ ⟨_, rfl, hs.below hb2⟩)
 have HB2 := tuck hb2
 have HS := tuck hs
 have HN : Hid (¬ ContrOk t → ∀ w', Below w.heap.size w w' → ReplPost w (ContrOk t) t.contr (.returned (.tuple #[.agg #[.int .i64 0, .int .i64 0, .slice none 0 0], .bool false])) w') := tuck fun h w' hb => ReplPost.no h hb
 have HY : Hid (ContrOk t → ∀ w' s F, Below w.heap.size w w' → SlOwn w' t.contr.kids s F → F.Nodup → (∀ g ∈ F, w.heap.size ≤ g ∧ g < w'.heap.size) → ReplPost w (ContrOk t) t.contr (.returned (.tuple #[.agg #[.int .i64 t.contr.kind, .int .i64 t.contr.num, s], .bool true])) w') := tuck fun h w' s F h1 h2 h3 h4 => ReplPost.yes h h1 h2 h3 h4
 clear hb2 hs
 generalize hpost : ReplPost w (ContrOk t) t.contr = post at *
 by_cases hv : t.Valid
 ·rw [tr_of hv] at HVAL
  have HCON : Hid (∀ w1, Below w.heap.size w w1 → Calls Tryz.prog 64 #[.agg #[.int .i64 t.kind, .int .i64 t.num, .slice a t.kids.length c]] w1 (ContrPost (fun _ => False) w1 (t.redex ≠ 0 ∧ t.contr.Valid) t.contr)) := tuck fun w1 h =>
   contract_any t hv.root (fun i hi => hv.get hi) w1 (fun _ => False) (fun _ h => h.elim) _ (SlX.of_sl (HS.out.below h) (fun _ h => h.elim))
  by_cases hc : t.redex ≠ 0 ∧ t.contr.Valid
  ·replace HY := tuck (HY.out ⟨hv, hc.1, hc.2⟩)
   have hsz := (valid_bounds hc.2).1
   have HCL : Hid (∀ (w1 : World) (s : Value), SlX w1 (fun _ => False) t.contr.kids s → Calls Tryz.prog 65 #[.agg #[.int .i64 t.contr.kind, .int .i64 t.contr.num, s]] w1 (MadePost w1 t.contr)) := tuck fun w1 s h => by
    have h2 := cloneI_any t.contr.kids t.contr.kind t.contr.num w1 s (by omega) h.sl
    rwa [Tm.eta] at h2
   clear HN hv hsz hpost HS
   go_enter Tryz.func30, Tryz.ntmps30
   go_wp2_with fail
   refine HVAL.out.mono ?_
   rintro e w1 ⟨rfl, hb1⟩
   obtain ⟨z0, a0, a1, a2, -⟩ := (HV0.out.below hb1).facts
   obtain ⟨z1, r0, r1, r2, rf⟩ := (HV1.out.below hb1).facts
   have HB1 := tuck (bAfter HB2.out hb1)
   clear hb1 HVAL
   go_wp2_with fail
   refine (HCON.out _ HB1.out).mono ?_
   rintro e w2 hpost2
   obtain ⟨U, ua, uc, rfl, hb2, hsU, hU⟩ := hpost2.open
   replace r0 := (hb2.cell (p := ⟨w.heap.size + 1, 0, none⟩) z1).trans r0
   replace r1 := (hb2.cell (p := ⟨w.heap.size + 1, 1, none⟩) z1).trans r1
   replace r2 := (hb2.cell (p := ⟨w.heap.size + 1, 2, none⟩) z1).trans r2
   have rf2 : ∀ i, w2.frozen? ⟨w.heap.size + 1, i, none⟩ = false := fun i => (hb2.frozen (p := ⟨w.heap.size + 1, i, none⟩) z1).trans (rf i)
   have z2 : w.heap.size + 1 < w2.heap.size := Nat.lt_of_lt_of_le z1 hb2.size
   have HB3 := tuck (bAfter HB1.out hb2)
   obtain rfl := hU hc
   rw [tr_of hc]
   have HSU := tuck hsU
   clear hpost2 hU hb2 hsU rf HCON hc
   generalize t.contr = T at *
   go_wp2_with fail
   have hbx := below1 w2 (.cells #[.int .i64 T.kind, .int .i64 T.num, .slice ua T.kids.length uc] 25)
   refine (HCL.out _ _ (HSU.out.below hbx)).mono ?_
   rintro e w3 ⟨hb3, tv, rfl, sv, F, rfl, hs3, hn3, hF3⟩
   obtain ⟨sa, sc, rfl⟩ := hs3.form
   have hb23 := bAfter hbx hb3
   replace r0 := (hb23.cell (p := ⟨w.heap.size + 1, 0, none⟩) z2).trans r0
   replace r1 := (hb23.cell (p := ⟨w.heap.size + 1, 1, none⟩) z2).trans r1
   replace r2 := (hb23.cell (p := ⟨w.heap.size + 1, 2, none⟩) z2).trans r2
   have rf3 : ∀ i, w3.frozen? ⟨w.heap.size + 1, i, none⟩ = false := fun i => (hb23.frozen (p := ⟨w.heap.size + 1, i, none⟩) z2).trans (rf2 i)
   have HB4 := tuck (bAfter HB3.out hb23)
   have HS3 := tuck hs3
   have HN3 := tuck hn3
   have hle : w2.heap.size ≤ (w2.alloc (.cells #[.int .i64 T.kind, .int .i64 T.num, .slice ua T.kids.length uc] 25)).heap.size := hbx.size
   have HF3 : Hid (∀ g ∈ F, w.heap.size + 1 < g ∧ g < w3.heap.size) := tuck fun g hg => ⟨Nat.lt_of_lt_of_le z2 (Nat.le_trans hle (hF3 g hg).1), (hF3 g hg).2⟩
   clear hs3 hn3 hF3 hb23 hb3 hbx hle rf2
   go_wp2_with fail
   refine bodyPost_ret (v := .tuple #[.agg #[.int .i64 T.kind, .int .i64 T.num, .slice sa T.kids.length sc], .bool true]) (by simp [results, Tryz.results30, go_sem, *]) rfl (HY.out _ _ F ?_ ?_ HN3.out fun g hg => ?_)
   ·exact bSet3 HB4.out (Nat.le_succ _) _ _ _ _ _ _
   ·exact HS3.out.set3 (fun h => by have := (HF3.out _ h).1; omega) _ _ _ _ _ _
   ·rw [size_set3]
    have := HF3.out g hg
    exact ⟨by omega, this.2⟩
  ·replace HN := tuck (HN.out (fun h => hc h.2))
   clear HY hv hpost HS
   go_enter Tryz.func30, Tryz.ntmps30
   go_wp2_with fail
   refine HVAL.out.mono ?_
   rintro e w1 ⟨rfl, hb1⟩
   obtain ⟨z0, a0, a1, a2, -⟩ := (HV0.out.below hb1).facts
   obtain ⟨z1, r0, r1, r2, rf⟩ := (HV1.out.below hb1).facts
   have HB1 := tuck (bAfter HB2.out hb1)
   clear hb1 HVAL
   go_wp2_with fail
   refine (HCON.out _ HB1.out).mono ?_
   rintro e w2 hpost2
   obtain ⟨U, ua, uc, rfl, hb2, hsU, hU⟩ := hpost2.open
   replace r0 := (hb2.cell (p := ⟨w.heap.size + 1, 0, none⟩) z1).trans r0
   replace r1 := (hb2.cell (p := ⟨w.heap.size + 1, 1, none⟩) z1).trans r1
   replace r2 := (hb2.cell (p := ⟨w.heap.size + 1, 2, none⟩) z1).trans r2
   have rf2 : ∀ i, w2.frozen? ⟨w.heap.size + 1, i, none⟩ = false := fun i => (hb2.frozen (p := ⟨w.heap.size + 1, i, none⟩) z1).trans (rf i)
   have z2 : w.heap.size + 1 < w2.heap.size := Nat.lt_of_lt_of_le z1 hb2.size
   have HB3 := tuck (bAfter HB1.out hb2)
   rw [tr_not hc]
   clear hpost2 hU hb2 hsU rf HCON hc
   go_wp2_with fail
   refine bodyPost_ret (v := .tuple #[.agg #[.int .i64 0, .int .i64 0, .slice none 0 0], .bool false]) (by simp [results, Tryz.results30, go_sem, *]) rfl (HN.out _ ?_)
   exact bAfter (bSet3 HB3.out (Nat.le_succ _) _ _ _ _ _ _) (below1 _ _)
 ·rw [tr_not hv] at HVAL
  replace HN := tuck (HN.out (fun h => hv h.1))
  clear HY hv hpost HS
  go_enter Tryz.func30, Tryz.ntmps30
  go_wp2_with fail
  refine HVAL.out.mono ?_
  rintro e w1 ⟨rfl, hb1⟩
  obtain ⟨z0, a0, a1, a2, -⟩ := (HV0.out.below hb1).facts
  obtain ⟨z1, r0, r1, r2, rf⟩ := (HV1.out.below hb1).facts
  have HB1 := tuck (bAfter HB2.out hb1)
  clear hb1 HVAL
  go_wp2_with fail
  refine bodyPost_ret (v := .tuple #[.agg #[.int .i64 0, .int .i64 0, .slice none 0 0], .bool false]) (by simp [results, Tryz.results30, go_sem, *]) rfl (HN.out _ ?_)
  exact bSet3 HB1.out (Nat.le_succ _) _ _ _ _ _ _
end Go.Proofs.YtabbbnddfcbdiaaGreat
namespace Go.Proofs.YtabbbnddfcbdiaaGreat
open Go.RowKit
theorem leafS_any (k n : Int) (w : World) : Calls Tryz.prog 81 #[.int .i64 k, .int .i64 n] w fun e w' => e = .returned (.agg #[.int .i64 k, .int .i64 n, .slice none 0 0]) ∧ Below w.heap.size w w' := by
 go_enter Tryz.func81, Tryz.ntmps81
 go_wp2
 refine bodyPost_ret (v := .agg #[.int .i64 k, .int .i64 n, .slice none 0 0]) (by simp [results, Tryz.results81, go_sem]) rfl ⟨rfl, below1 _ _⟩
def AnyPost (g : Nat) (a : Option Addr) (len cap p : Nat) (w : World) (e : Ending) (w' : World) : Prop :=
 ∃ (t : Tm) (s : Value) (F : List Nat) (p' : Nat), e = .returned (.agg #[.int .i64 t.kind, .int .i64 t.num, s]) ∧ SlOwn w' t.kids s F ∧ F.Nodup ∧ (∀ x ∈ F, w.heap.size ≤ x ∧ x < w'.heap.size) ∧ t.Valid ∧ p' ≤ p + 1876 ∧ Rd g a len cap p' w' ∧ Only g w w'
set_option maxRecDepth 100000 in
set_option maxHeartbeats 1600000 in
theorem lany_any {U : Nat → Int} {g b o len cap p : Nat} {a : Option Addr} (w : World) (hlen : len ≤ 2000) (hbg : 0 < len → b ≠ g) (hp : p ≤ 90000) (hrd : Rd g a len cap p w) (hby : Bytes U a b o len w) :
  Calls Tryz.prog 86 #[.pointer (some ⟨g, 0, none⟩)] w (AnyPost g a len cap p w) := by
 have hg := hrd.facts.1
 have HRD := tuck hrd
 have HBY := tuck hby
 have HPOST : Hid (∀ (t : Tm) (w' : World) (s : Value) (F : List Nat) (p' : Nat), SlOwn w' t.kids s F → F.Nodup → (∀ x ∈ F, w.heap.size ≤ x ∧ x < w'.heap.size) → t.Valid → p' ≤ p + 1876 → Rd g a len cap p' w' → Only g w w' → AnyPost g a len cap p w (.returned (.agg #[.int .i64 t.kind, .int .i64 t.num, s])) w') := fun t w' s F p' h1 h2 h3 h4 h5 h6 h7 => ⟨t, s, F, p', rfl, h1, h2, h3, h4, h5, h6, h7⟩
 generalize AnyPost g a len cap p w = post at *
 have HL1 : Hid (DInts (fun i => ([3, 4, 2, 3, 1] : List Int).getD i 0) (w.heap.size + 1) 0 5 ((w.alloc (.cells #[.int .i64 0, .int .i64 0, .slice none 0 0] 25)).alloc (.cells #[.int .i64 3, .int .i64 4, .int .i64 2, .int .i64 3, .int .i64 1] 3))) := by
  have := ints_new [3, 4, 2, 3, 1] (w.alloc (.cells #[.int .i64 0, .int .i64 0, .slice none 0 0] 25)) 3
  rwa [show (w.alloc (.cells #[.int .i64 0, .int .i64 0, .slice none 0 0] 25)).heap.size = w.heap.size + 1 by simp] at this
 have HO0 : Hid (Only g w ((w.alloc (.cells #[.int .i64 0, .int .i64 0, .slice none 0 0] 25)).alloc (.cells #[.int .i64 3, .int .i64 4, .int .i64 2, .int .i64 3, .int .i64 1] 3))) := ((Only.refl g w).alloc _).alloc _
 have HV0 : Hid (VarAt w.heap.size 0 0 (.slice none 0 0) ((w.alloc (.cells #[.int .i64 0, .int .i64 0, .slice none 0 0] 25)).alloc (.cells #[.int .i64 3, .int .i64 4, .int .i64 2, .int .i64 3, .int .i64 1] 3))) := (VarAt.new w 0 0 (.slice none 0 0)).below (below1 _ _)
 clear hrd hby
 go_enter Tryz.func86, Tryz.ntmps86
 go_wp2_with fail
 refine (num_any (N := fun i => ([3, 4, 2, 3, 1] : List Int).getD i 0) (o2 := 0) (n := 5) _ hlen (by omega) (by omega) (by omega) (HRD.out.below (below2 _ _ _)) (HBY.out.below (below2 _ _ _)) hbg HL1.out (by omega)).mono ?_
 rintro e w1 ⟨i1, hi1, he, hrd, ho⟩
 obtain ⟨d, hd⟩ : ∃ d : Int, d = ([3, 4, 2, 3, 1] : List Int).getD i1 0 := ⟨_, rfl⟩
 obtain rfl : e = .returned (.int .i64 d) := by rw [hd]; exact he
 clear he
 have hk := (by decide : ∀ i < 5, 1 ≤ ([3, 4, 2, 3, 1] : List Int).getD i 0 ∧ ([3, 4, 2, 3, 1] : List Int).getD i 0 ≤ 4) i1 hi1
 rw [← hd] at hk
 clear hd
 obtain ⟨hk0, hk1⟩ := hk
 have HY0 := tuck (HV0.out.only ho (by omega))
 have hzr : w.heap.size < w1.heap.size := HY0.out.facts.1
 have HO := tuck (HO0.out.trans ho)
 have HD := tuck (ldraw_any hlen hbg 4 (by omega) d (p + 1) w1 (by omega) (by omega) (by omega) hrd ((HBY.out.below (below2 w _ _)).only ho hbg))
 clear hrd ho HO0 HV0 HL1
 go_wp2_with fail
 refine HD.out.mono ?_
 rintro e w2 ⟨T, ts, G, p2, rfl, hso, hnd, hF, hsz, hp2, hrd, ho⟩
 obtain ⟨ta, tc, rfl⟩ := hso.form
 replace HY0 := tuck (HY0.out.only ho (by omega))
 have hz1 : w.heap.size ≤ w1.heap.size := HO.out.size
 have HGB : Hid (∀ x ∈ G, w1.heap.size ≤ x ∧ x < w2.heap.size) := tuck hF
 have hz2 : w1.heap.size ≤ w2.heap.size := ho.size
 replace HO := tuck (HO.out.trans ho)
 have HR := tuck hrd
 have HP2 : Hid (p2 ≤ p + 1 + 3 * 625) := tuck hp2
 have HSO := tuck hso
 have HND := tuck hnd
 clear hso hnd hF hsz hp2 hrd ho HD
 go_wp2_with fail
 have HV : Hid (∀ W : World, Below w2.heap.size w2 W → Calls Tryz.prog 60 #[.agg #[.int .i64 T.kind, .int .i64 T.num, .slice ta T.kids.length tc]] W (BoolPost W (tr T.Valid))) := fun W h => validS_any T W _ ⟨_, rfl, (HSO.out.sl (B := 0) (fun _ _ => Nat.zero_le _)).below h⟩
 by_cases hT : T.Valid
 ·have HTV := tuck hT
  rw [tr_of hT] at HV
  clear hT
  have HPE := tuck (HPOST.out T)
  refine (HV.out _ (below1 _ _)).mono ?_
  rintro e w3 ⟨rfl, hb⟩
  have hbb := bAfter (below1 w2 (.cells #[.int .i64 T.kind, .int .i64 T.num, .slice ta T.kids.length tc] 25)) hb
  have hvt := (VarAt.new w2 T.kind T.num (.slice ta T.kids.length tc)).below hb
  obtain ⟨zt, t0, t1, t2, -⟩ := hvt.facts
  have HY3 := tuck (HY0.out.below hbb)
  obtain ⟨zv, v0, v1, v2, vf⟩ := HY3.out.facts
  have HO3 := tuck (HO.out.of_below hbb)
  have HR3 := tuck (HR.out.below hbb)
  have HSO3 := tuck (HSO.out.below (fun x hx => (HGB.out x hx).2) hbb)
  have hz3 : w2.heap.size ≤ w3.heap.size := hbb.size
  clear hb hbb hvt
  go_wp2_with fail
  refine bodyPost_ret (v := .agg #[.int .i64 T.kind, .int .i64 T.num, .slice ta T.kids.length tc]) (by simp [results, Tryz.results86, go_sem, *]) rfl (HPE.out _ _ G p2 ?_ HND.out (fun x hx => ?_) HTV.out ?_ ?_ ?_)
  ·exact HSO3.out.set3 (fun h => by have := (HGB.out _ h).1; omega) _ _ _ _ _ _
  ·rw [size_set3]
   have := HGB.out x hx
   omega
  ·have := HP2.out
   omega
  ·exact ((HR3.out.far (show w.heap.size ≠ g by omega)).far (show w.heap.size ≠ g by omega)).far (show w.heap.size ≠ g by omega)
  ·exact ((HO3.out.setCell (Or.inr (Nat.le_refl _)) _).setCell (Or.inr (Nat.le_refl _)) _).setCell (Or.inr (Nat.le_refl _)) _
 ·rw [tr_not hT] at HV
  clear hT
  have HPE := tuck (HPOST.out (numT 0))
  refine (HV.out _ (below1 _ _)).mono ?_
  rintro e w3 ⟨rfl, hb⟩
  have hbb := bAfter (below1 w2 (.cells #[.int .i64 T.kind, .int .i64 T.num, .slice ta T.kids.length tc] 25)) hb
  have HY3 := tuck (HY0.out.below hbb)
  have HO3 := tuck (HO.out.of_below hbb)
  have HR3 := tuck (HR.out.below hbb)
  clear hb hbb
  go_wp2_with fail
  refine (leafS_any 7 0 _).mono ?_
  rintro e w4 ⟨rfl, hb⟩
  replace HY3 := tuck (HY3.out.below hb)
  replace HO3 := tuck (HO3.out.of_below hb)
  replace HR3 := tuck (HR3.out.below hb)
  obtain ⟨zv, v0, v1, v2, vf⟩ := HY3.out.facts
  clear hb
  go_wp2_with fail
  refine bodyPost_ret (v := .agg #[.int .i64 7, .int .i64 0, .slice none 0 0]) (by simp [results, Tryz.results86, go_sem, *]) rfl (HPE.out _ _ [] p2 ?_ List.nodup_nil (fun x hx => by cases hx) (valid_numT (by omega)) ?_ ?_ ?_)
  ·exact SlOwn.nil _ _ _
  ·have := HP2.out
   omega
  ·exact ((HR3.out.far (show w.heap.size ≠ g by omega)).far (show w.heap.size ≠ g by omega)).far (show w.heap.size ≠ g by omega)
  ·exact ((HO3.out.setCell (Or.inr (Nat.le_refl _)) _).setCell (Or.inr (Nat.le_refl _)) _).setCell (Or.inr (Nat.le_refl _)) _
end Go.Proofs.YtabbbnddfcbdiaaGreat
