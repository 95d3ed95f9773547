/-
  ContrS.
-/
import Derived.Test.YtlbikgnanabjgaaGreatQ18
import Derived.Test.YtlbikgnanabjgaaGreatQ22
import Derived.Test.YtlbikgnanabjgaaGreatQ24
import Derived.Test.YtlbikgnanabjgaaGreatQ28
import Derived.Test.YtlbikgnanabjgaaGreatQ32
import Derived.Deep.DeepCutAuto
namespace Go.Proofs.YtlbikgnanabjgaaGreat
open Go.RowKit
theorem SlX.from {w : World} {B : Nat} : ∀ {l : List Tm} {v : Value}, SlX w (fun i => i < B) l v → SlIn w B l v := by
 intro l
 induction l using Tm.ind with
 | h l ih =>
  intro v h
  obtain ⟨a, cap, b, o, rfl, h1, h2, h3⟩ := h.open
  refine ⟨a, cap, b, o, rfl, h1, fun hn => ⟨(h2 hn).1, Nat.not_lt.1 (h2 hn).2.1⟩, RowAt.of_get fun i hi => ?_⟩
  obtain ⟨s, c0, c1, c2, hs⟩ := h3 i hi
  exact TmAt_iff.2 ⟨s, c0, c1, c2, ih i hi hs⟩
def SPost (w : World) (T : Tm) (e : Ending) (w' : World) : Prop := Below w.heap.size w w' ∧ ∃ v, e = .returned v ∧ TmIn w' w.heap.size T v
theorem MadePost.s {w w' : World} {T : Tm} {e : Ending} (h : MadePost w T e w') : SPost w T e w' := by
 obtain ⟨hb, v, rfl, s, F, rfl, hs, -, hF⟩ := h
 exact ⟨hb, _, rfl, s, rfl, hs.sl fun g hg => (hF g hg).1⟩
theorem SPost.open {w w' : World} {T : Tm} {e : Ending} (h : SPost w T e w') : ∃ (a : Option Addr) (c : Nat), e = .returned (.agg #[.int .i64 T.kind, .int .i64 T.num, .slice a T.kids.length c]) ∧ Below w.heap.size w w' ∧ SlIn w' w.heap.size T.kids (.slice a T.kids.length c) := by
 obtain ⟨hb, v, rfl, s, rfl, hs⟩ := h
 obtain ⟨a, c, rfl⟩ := hs.form
 exact ⟨a, c, rfl, hb, hs⟩
def BPost (B : Nat) (w : World) (T : Tm) (e : Ending) (w' : World) : Prop := Below w.heap.size w w' ∧ ∃ (a : Option Addr) (c : Nat), e = .returned (.agg #[.int .i64 T.kind, .int .i64 T.num, .slice a T.kids.length c]) ∧ SlIn w' B T.kids (.slice a T.kids.length c)
theorem MadePost.b {B : Nat} {w w' : World} {T : Tm} {e : Ending} (h : MadePost w T e w') (hB : B ≤ w.heap.size) : BPost B w T e w' := by
 obtain ⟨hb, v, rfl, s, F, rfl, hs, -, hF⟩ := h
 obtain ⟨a, c, rfl⟩ := hs.form
 exact ⟨hb, a, c, rfl, hs.sl fun g hg => Nat.le_trans hB (hF g hg).1⟩
theorem copyS_any (B : Nat) (t : Tm) (ht : sizes t.kids ≤ 1000000) (w : World) (hB : B ≤ w.heap.size) (s : Value) (hs : SlIn w 0 t.kids s) : Calls Tryz.prog 17 #[.agg #[.int .i64 t.kind, .int .i64 t.num, s]] w (BPost B w t) := by
 have h := lcopy_any t.kids t.kind t.num w s ht hs
 rw [Tm.eta] at h
 exact h.mono fun _ _ h => h.b hB
set_option maxRecDepth 100000 in
set_option maxHeartbeats 3200000 in
theorem lcontr2_any (t : Tm) (hr : t.rootOk) (hk : ∀ i (hi : i < t.kids.length), t.kids[i].Valid) (h0 : t.redex = 2) (w : World) (s : Value) (hs : SlIn w 0 t.kids s) :
  Calls Tryz.prog 51 #[.agg #[.int .i64 t.kind, .int .i64 t.num, s]] w (SPost w t.contr) := by
 obtain ⟨e, hkd, hl, hm⟩ : t.redex = 2 ∧ t.kind = 9 ∧ t.kids.length = 4 ∧ (kidT t 3).kind = 7 := by
  rcases redex_shape hr (by omega) with h | h | h | h | h | h
  all_goals first | exact h | (exfalso; have := h.1; omega)
 obtain ⟨a, cap, b, o, rfl, -, hp, hc⟩ := hs.open
 obtain ⟨rfl, -, hbw⟩ := hp (by intro e; rw [e] at hl; simp at hl)
 obtain ⟨s1, c10, c11, c12, hs1⟩ := hc 1 (by omega)
 have hK1 : kidT t 1 = t.kids[1] := kidT_eq (by omega)
 have hv1 := hk 1 (by omega)
 have hC : t.contr = kidT t 1 := by unfold Tm.contr; rw [if_neg (by omega), if_pos h0]
 rw [hC]
 rw [hK1]
 generalize t.kids[1] = U at *
 obtain ⟨a1, n1, rfl⟩ := hs1.form
 rw [hkd, hl]
 have hb2 := below2 w (.cells #[.int .i64 9, .int .i64 t.num, .slice (some ⟨b, o, none⟩) 4 cap] 25) (.cells #[.int .i64 0, .int .i64 0, .slice none 0 0] 25)
 have HV0 := tuck ((VarAt.new w 9 t.num (.slice (some ⟨b, o, none⟩) 4 cap)).below (below1 _ (.cells #[.int .i64 0, .int .i64 0, .slice none 0 0] 25)))
 have HV1 := tuck (var_new1 w (.cells #[.int .i64 9, .int .i64 t.num, .slice (some ⟨b, o, none⟩) 4 cap] 25) 0 0 (.slice none 0 0))
 have HRED := tuck (redS_any t hr ((w.alloc (.cells #[.int .i64 9, .int .i64 t.num, .slice (some ⟨b, o, none⟩) 4 cap] 25)).alloc (.cells #[.int .i64 0, .int .i64 0, .slice none 0 0] 25)) (.slice (some ⟨b, o, none⟩) t.kids.length cap) (hs.below hb2))
 rw [hkd, hl, e] at HRED
 have HROW : Hid (∀ w', Below w.heap.size w w' → w'.cell? ⟨b, o + 3, none⟩ = some (.int .i64 U.kind) ∧ w'.cell? ⟨b, o + 4, none⟩ = some (.int .i64 U.num) ∧ w'.cell? ⟨b, o + 5, none⟩ = some (.slice a1 U.kids.length n1)) := tuck fun w' h =>
  ⟨(h.cell (p := ⟨b, o + 3, none⟩) hbw).trans (by simpa using c10), (h.cell (p := ⟨b, o + 4, none⟩) hbw).trans (by simpa using c11), (h.cell (p := ⟨b, o + 5, none⟩) hbw).trans (by simpa using c12)⟩
 have HB2 := tuck hb2
 have HC : Hid (∀ w', Below w.heap.size w w' → w.heap.size + 2 ≤ w'.heap.size → Calls Tryz.prog 17 #[.agg #[.int .i64 U.kind, .int .i64 U.num, (.slice a1 U.kids.length n1)]] w' (BPost (w.heap.size + 2) w' U)) := tuck fun w' h hB => copyS_any _ U (by have := (valid_bounds hv1).1; omega) w' hB _ (hs1.below h)
 have HP : Hid (∀ w' s, Below w.heap.size w w' → SlIn w' w.heap.size U.kids s → SPost w U (.returned (.agg #[.int .i64 U.kind, .int .i64 U.num, s])) w') := tuck fun w' s h1 h2 => ⟨h1, _, rfl, s, rfl, h2⟩
 generalize SPost w U = post at *
 clear hs hr hk h0 e hkd hl hm hc hp hC hb2 c10 c11 c12 hs1 hK1 hv1 
 go_enter Tryz.func51, Tryz.ntmps51
 go_wp2_with fail
 generalize ((w.alloc (.cells #[.int .i64 9, .int .i64 t.num, .slice (some ⟨b, o, none⟩) 4 cap] 25)).alloc (.cells #[.int .i64 0, .int .i64 0, .slice none 0 0] 25)) = W0 at *
 refine HRED.out.mono ?_
 rintro e' w1 ⟨rfl, hb1⟩
 obtain ⟨z0, a0', a1', a2', -⟩ := (HV0.out.below hb1).facts
 obtain ⟨z1, r0, r1, r2, rf⟩ := (HV1.out.below hb1).facts
 have HB1 := tuck (bAfter HB2.out hb1)
 have HV1' := tuck (HV1.out.below hb1)
 have HV0' := tuck (HV0.out.below hb1)
 clear hb1 HRED HV0 HV1
 obtain ⟨k0, k1, k2⟩ := HROW.out _ HB1.out
 have zb : b < w1.heap.size := Nat.lt_of_lt_of_le hbw HB1.out.size
 go_wp2_with fail
 refine (HC.out _ HB1.out (by omega)).mono ?_
 rintro e' w2 ⟨hb2, ra, rc, rfl, hs2⟩
 replace r0 := (hb2.cell (p := ⟨w.heap.size + 1, 0, none⟩) z1).trans r0
 replace r1 := (hb2.cell (p := ⟨w.heap.size + 1, 1, none⟩) z1).trans r1
 replace r2 := (hb2.cell (p := ⟨w.heap.size + 1, 2, none⟩) z1).trans r2
 have rf2 : ∀ i, w2.frozen? ⟨w.heap.size + 1, i, none⟩ = false := fun i => (hb2.frozen (p := ⟨w.heap.size + 1, i, none⟩) z1).trans (rf i)
 have HSE := tuck hs2
 have HBE := tuck (bAfter HB1.out hb2)
 clear hb2 hs2 rf k0 k1 k2 a0' a1' a2'
 go_wp2_with fail
 refine bodyPost_ret (v := .agg #[.int .i64 U.kind, .int .i64 U.num, .slice ra U.kids.length rc]) (by simp [results, Tryz.results51, go_sem, *]) rfl (HP.out _ _ ?_ ?_)
 ·exact bSet3 HBE.out (Nat.le_succ _) _ _ _ _ _ _
 ·exact (SlIn.set3 HSE.out (Nat.lt_succ_self _)).mono (Nat.le_add_right _ 2)
set_option maxRecDepth 100000 in
set_option maxHeartbeats 3200000 in
theorem lcontr4_any (t : Tm) (hr : t.rootOk) (hk : ∀ i (hi : i < t.kids.length), t.kids[i].Valid) (h0 : t.redex = 4) (w : World) (s : Value) (hs : SlIn w 0 t.kids s) :
  Calls Tryz.prog 51 #[.agg #[.int .i64 t.kind, .int .i64 t.num, s]] w (SPost w t.contr) := by
 obtain ⟨e, hkd, hl, hm⟩ : t.redex = 4 ∧ t.kind = 12 ∧ t.kids.length = 3 ∧ (kidT t 1).kind = 11 := by
  rcases redex_shape hr (by omega) with h | h | h | h | h | h
  all_goals first | exact h | (exfalso; have := h.1; omega)
 obtain ⟨a, cap, b, o, rfl, -, hp, hc⟩ := hs.open
 obtain ⟨rfl, -, hbw⟩ := hp (by intro e; rw [e] at hl; simp at hl)
 obtain ⟨s2, c20, c21, c22, hs2⟩ := hc 2 (by omega)
 have hK2 : kidT t 2 = t.kids[2] := kidT_eq (by omega)
 have hv2 := hk 2 (by omega)
 have hC : t.contr = kidT t 2 := by unfold Tm.contr; rw [if_neg (by omega), if_neg (by omega), if_neg (by omega), if_pos h0]
 rw [hC]
 rw [hK2]
 generalize t.kids[2] = U at *
 obtain ⟨a2, n2, rfl⟩ := hs2.form
 rw [hkd, hl]
 have hb2 := below2 w (.cells #[.int .i64 12, .int .i64 t.num, .slice (some ⟨b, o, none⟩) 3 cap] 25) (.cells #[.int .i64 0, .int .i64 0, .slice none 0 0] 25)
 have HV0 := tuck ((VarAt.new w 12 t.num (.slice (some ⟨b, o, none⟩) 3 cap)).below (below1 _ (.cells #[.int .i64 0, .int .i64 0, .slice none 0 0] 25)))
 have HV1 := tuck (var_new1 w (.cells #[.int .i64 12, .int .i64 t.num, .slice (some ⟨b, o, none⟩) 3 cap] 25) 0 0 (.slice none 0 0))
 have HRED := tuck (redS_any t hr ((w.alloc (.cells #[.int .i64 12, .int .i64 t.num, .slice (some ⟨b, o, none⟩) 3 cap] 25)).alloc (.cells #[.int .i64 0, .int .i64 0, .slice none 0 0] 25)) (.slice (some ⟨b, o, none⟩) t.kids.length cap) (hs.below hb2))
 rw [hkd, hl, e] at HRED
 have HROW : Hid (∀ w', Below w.heap.size w w' → w'.cell? ⟨b, o + 6, none⟩ = some (.int .i64 U.kind) ∧ w'.cell? ⟨b, o + 7, none⟩ = some (.int .i64 U.num) ∧ w'.cell? ⟨b, o + 8, none⟩ = some (.slice a2 U.kids.length n2)) := tuck fun w' h =>
  ⟨(h.cell (p := ⟨b, o + 6, none⟩) hbw).trans (by simpa using c20), (h.cell (p := ⟨b, o + 7, none⟩) hbw).trans (by simpa using c21), (h.cell (p := ⟨b, o + 8, none⟩) hbw).trans (by simpa using c22)⟩
 have HB2 := tuck hb2
 have HC : Hid (∀ w', Below w.heap.size w w' → w.heap.size + 2 ≤ w'.heap.size → Calls Tryz.prog 17 #[.agg #[.int .i64 U.kind, .int .i64 U.num, (.slice a2 U.kids.length n2)]] w' (BPost (w.heap.size + 2) w' U)) := tuck fun w' h hB => copyS_any _ U (by have := (valid_bounds hv2).1; omega) w' hB _ (hs2.below h)
 have HP : Hid (∀ w' s, Below w.heap.size w w' → SlIn w' w.heap.size U.kids s → SPost w U (.returned (.agg #[.int .i64 U.kind, .int .i64 U.num, s])) w') := tuck fun w' s h1 h2 => ⟨h1, _, rfl, s, rfl, h2⟩
 generalize SPost w U = post at *
 clear hs hr hk h0 e hkd hl hm hc hp hC hb2 c20 c21 c22 hs2 hK2 hv2 
 go_enter Tryz.func51, Tryz.ntmps51
 go_wp2_with fail
 generalize ((w.alloc (.cells #[.int .i64 12, .int .i64 t.num, .slice (some ⟨b, o, none⟩) 3 cap] 25)).alloc (.cells #[.int .i64 0, .int .i64 0, .slice none 0 0] 25)) = W0 at *
 refine HRED.out.mono ?_
 rintro e' w1 ⟨rfl, hb1⟩
 obtain ⟨z0, a0', a1', a2', -⟩ := (HV0.out.below hb1).facts
 obtain ⟨z1, r0, r1, r2, rf⟩ := (HV1.out.below hb1).facts
 have HB1 := tuck (bAfter HB2.out hb1)
 have HV1' := tuck (HV1.out.below hb1)
 have HV0' := tuck (HV0.out.below hb1)
 clear hb1 HRED HV0 HV1
 obtain ⟨k0, k1, k2⟩ := HROW.out _ HB1.out
 have zb : b < w1.heap.size := Nat.lt_of_lt_of_le hbw HB1.out.size
 go_wp2_with fail
 refine (HC.out _ HB1.out (by omega)).mono ?_
 rintro e' w2 ⟨hb2, ra, rc, rfl, hs2⟩
 replace r0 := (hb2.cell (p := ⟨w.heap.size + 1, 0, none⟩) z1).trans r0
 replace r1 := (hb2.cell (p := ⟨w.heap.size + 1, 1, none⟩) z1).trans r1
 replace r2 := (hb2.cell (p := ⟨w.heap.size + 1, 2, none⟩) z1).trans r2
 have rf2 : ∀ i, w2.frozen? ⟨w.heap.size + 1, i, none⟩ = false := fun i => (hb2.frozen (p := ⟨w.heap.size + 1, i, none⟩) z1).trans (rf i)
 have HSE := tuck hs2
 have HBE := tuck (bAfter HB1.out hb2)
 clear hb2 hs2 rf k0 k1 k2 a0' a1' a2'
 go_wp2_with fail
 refine bodyPost_ret (v := .agg #[.int .i64 U.kind, .int .i64 U.num, .slice ra U.kids.length rc]) (by simp [results, Tryz.results51, go_sem, *]) rfl (HP.out _ _ ?_ ?_)
 ·exact bSet3 HBE.out (Nat.le_succ _) _ _ _ _ _ _
 ·exact (SlIn.set3 HSE.out (Nat.lt_succ_self _)).mono (Nat.le_add_right _ 2)
set_option maxRecDepth 100000 in
set_option maxHeartbeats 3200000 in
theorem lcontr5_any (t : Tm) (hr : t.rootOk) (hk : ∀ i (hi : i < t.kids.length), t.kids[i].Valid) (h0 : t.redex = 5) (w : World) (s : Value) (hs : SlIn w 0 t.kids s) :
  Calls Tryz.prog 51 #[.agg #[.int .i64 t.kind, .int .i64 t.num, s]] w (SPost w t.contr) := by
 obtain ⟨e, hkd, hl, hm⟩ : t.redex = 5 ∧ t.kind = 15 ∧ t.kids.length = 1 ∧ (kidT t 0).kind = 14 := by
  rcases redex_shape hr (by omega) with h | h | h | h | h | h
  all_goals first | exact h | (exfalso; have := h.1; omega)
 obtain ⟨a, cap, b, o, rfl, -, hp, hc⟩ := hs.open
 obtain ⟨rfl, -, hbw⟩ := hp (by intro e; rw [e] at hl; simp at hl)
 obtain ⟨s0, c00, c01, c02, hs0⟩ := hc 0 (by omega)
 have hK0 : kidT t 0 = t.kids[0] := kidT_eq (by omega)
 have hv0 := hk 0 (by omega)
 have hC : t.contr = kidT (kidT t 0) 1 := by unfold Tm.contr; rw [if_neg (by omega), if_neg (by omega), if_neg (by omega), if_neg (by omega), if_pos h0]
 rw [hC]
 have hl2 : (kidT t 0).kids.length = 3 := by
  have h0 : (kidT t 0).Valid := by rw [hK0]; exact hv0
  have := kid_len h0.root hm (a := 3) (by decide)
  omega
 rw [hK0] at hl2
 rw [hK0]
 generalize t.kids[0] = M at *
 obtain ⟨am, capm, bm, om, rfl, -, hpm, hcm⟩ := hs0.open
 obtain ⟨rfl, -, hbm⟩ := hpm (by intro e; rw [e] at hl2; simp at hl2)
 obtain ⟨u1, d10, d11, d12, ht1⟩ := hcm 1 (by omega)
 have hJ1 : kidT M 1 = M.kids[1] := kidT_eq (by omega)
 have hy1 := hv0.get (i := 1) (by omega)
 rw [hJ1]
 generalize M.kids[1] = U at *
 obtain ⟨p1, q1, rfl⟩ := ht1.form
 rw [hl2] at c02
 rw [hkd, hl]
 have hb2 := below2 w (.cells #[.int .i64 15, .int .i64 t.num, .slice (some ⟨b, o, none⟩) 1 cap] 25) (.cells #[.int .i64 0, .int .i64 0, .slice none 0 0] 25)
 have HV0 := tuck ((VarAt.new w 15 t.num (.slice (some ⟨b, o, none⟩) 1 cap)).below (below1 _ (.cells #[.int .i64 0, .int .i64 0, .slice none 0 0] 25)))
 have HV1 := tuck (var_new1 w (.cells #[.int .i64 15, .int .i64 t.num, .slice (some ⟨b, o, none⟩) 1 cap] 25) 0 0 (.slice none 0 0))
 have HRED := tuck (redS_any t hr ((w.alloc (.cells #[.int .i64 15, .int .i64 t.num, .slice (some ⟨b, o, none⟩) 1 cap] 25)).alloc (.cells #[.int .i64 0, .int .i64 0, .slice none 0 0] 25)) (.slice (some ⟨b, o, none⟩) t.kids.length cap) (hs.below hb2))
 rw [hkd, hl, e] at HRED
 have HROW : Hid (∀ w', Below w.heap.size w w' → w'.cell? ⟨b, o, none⟩ = some (.int .i64 M.kind) ∧ w'.cell? ⟨b, o + 1, none⟩ = some (.int .i64 M.num) ∧ w'.cell? ⟨b, o + 2, none⟩ = some (.slice (some ⟨bm, om, none⟩) 3 capm) ∧ w'.cell? ⟨bm, om + 3, none⟩ = some (.int .i64 U.kind) ∧ w'.cell? ⟨bm, om + 4, none⟩ = some (.int .i64 U.num) ∧ w'.cell? ⟨bm, om + 5, none⟩ = some (.slice p1 U.kids.length q1)) := tuck fun w' h =>
  ⟨(h.cell (p := ⟨b, o, none⟩) hbw).trans (by simpa using c00), (h.cell (p := ⟨b, o + 1, none⟩) hbw).trans (by simpa using c01), (h.cell (p := ⟨b, o + 2, none⟩) hbw).trans (by simpa using c02), (h.cell (p := ⟨bm, om + 3, none⟩) hbm).trans (by simpa using d10), (h.cell (p := ⟨bm, om + 4, none⟩) hbm).trans (by simpa using d11), (h.cell (p := ⟨bm, om + 5, none⟩) hbm).trans (by simpa using d12)⟩
 have HB2 := tuck hb2
 have HC : Hid (∀ w', Below w.heap.size w w' → w.heap.size + 2 ≤ w'.heap.size → Calls Tryz.prog 17 #[.agg #[.int .i64 U.kind, .int .i64 U.num, (.slice p1 U.kids.length q1)]] w' (BPost (w.heap.size + 2) w' U)) := tuck fun w' h hB => copyS_any _ U (by have := (valid_bounds hy1).1; omega) w' hB _ (ht1.below h)
 have HP : Hid (∀ w' s, Below w.heap.size w w' → SlIn w' w.heap.size U.kids s → SPost w U (.returned (.agg #[.int .i64 U.kind, .int .i64 U.num, s])) w') := tuck fun w' s h1 h2 => ⟨h1, _, rfl, s, rfl, h2⟩
 generalize SPost w U = post at *
 clear hs hr hk h0 e hkd hl hm hc hp hC hb2 c00 c01 c02 hs0 hK0 hv0 hpm hcm hl2 d10 d11 d12 ht1 hJ1 hy1
 go_enter Tryz.func51, Tryz.ntmps51
 go_wp2_with fail
 generalize ((w.alloc (.cells #[.int .i64 15, .int .i64 t.num, .slice (some ⟨b, o, none⟩) 1 cap] 25)).alloc (.cells #[.int .i64 0, .int .i64 0, .slice none 0 0] 25)) = W0 at *
 refine HRED.out.mono ?_
 rintro e' w1 ⟨rfl, hb1⟩
 obtain ⟨z0, a0', a1', a2', -⟩ := (HV0.out.below hb1).facts
 obtain ⟨z1, r0, r1, r2, rf⟩ := (HV1.out.below hb1).facts
 have HB1 := tuck (bAfter HB2.out hb1)
 have HV1' := tuck (HV1.out.below hb1)
 have HV0' := tuck (HV0.out.below hb1)
 clear hb1 HRED HV0 HV1
 obtain ⟨k0, k1, k2, k3, k4, k5⟩ := HROW.out _ HB1.out
 have zb : b < w1.heap.size := Nat.lt_of_lt_of_le hbw HB1.out.size
 go_wp2_with fail
 refine (HC.out _ HB1.out (by omega)).mono ?_
 rintro e' w2 ⟨hb2, ra, rc, rfl, hs2⟩
 replace r0 := (hb2.cell (p := ⟨w.heap.size + 1, 0, none⟩) z1).trans r0
 replace r1 := (hb2.cell (p := ⟨w.heap.size + 1, 1, none⟩) z1).trans r1
 replace r2 := (hb2.cell (p := ⟨w.heap.size + 1, 2, none⟩) z1).trans r2
 have rf2 : ∀ i, w2.frozen? ⟨w.heap.size + 1, i, none⟩ = false := fun i => (hb2.frozen (p := ⟨w.heap.size + 1, i, none⟩) z1).trans (rf i)
 have HSE := tuck hs2
 have HBE := tuck (bAfter HB1.out hb2)
 clear hb2 hs2 rf k0 k1 k2 k3 k4 k5 a0' a1' a2'
 go_wp2_with fail
 refine bodyPost_ret (v := .agg #[.int .i64 U.kind, .int .i64 U.num, .slice ra U.kids.length rc]) (by simp [results, Tryz.results51, go_sem, *]) rfl (HP.out _ _ ?_ ?_)
 ·exact bSet3 HBE.out (Nat.le_succ _) _ _ _ _ _ _
 ·exact (SlIn.set3 HSE.out (Nat.lt_succ_self _)).mono (Nat.le_add_right _ 2)
set_option maxRecDepth 100000 in
set_option maxHeartbeats 3200000 in
theorem lcontr6_any (t : Tm) (hr : t.rootOk) (hk : ∀ i (hi : i < t.kids.length), t.kids[i].Valid) (h0 : t.redex = 6) (w : World) (s : Value) (hs : SlIn w 0 t.kids s) :
  Calls Tryz.prog 51 #[.agg #[.int .i64 t.kind, .int .i64 t.num, s]] w (SPost w t.contr) := by
 obtain ⟨e, hkd, hl, hm⟩ : t.redex = 6 ∧ t.kind = 16 ∧ t.kids.length = 1 ∧ (kidT t 0).kind = 14 := by
  rcases redex_shape hr (by omega) with h | h | h | h | h | h
  all_goals first | exact h | (exfalso; have := h.1; omega)
 obtain ⟨a, cap, b, o, rfl, -, hp, hc⟩ := hs.open
 obtain ⟨rfl, -, hbw⟩ := hp (by intro e; rw [e] at hl; simp at hl)
 obtain ⟨s0, c00, c01, c02, hs0⟩ := hc 0 (by omega)
 have hK0 : kidT t 0 = t.kids[0] := kidT_eq (by omega)
 have hv0 := hk 0 (by omega)
 have hC : t.contr = kidT (kidT t 0) 2 := by unfold Tm.contr; rw [if_neg (by omega), if_neg (by omega), if_neg (by omega), if_neg (by omega), if_neg (by omega)]
 rw [hC]
 have hl2 : (kidT t 0).kids.length = 3 := by
  have h0 : (kidT t 0).Valid := by rw [hK0]; exact hv0
  have := kid_len h0.root hm (a := 3) (by decide)
  omega
 rw [hK0] at hl2
 rw [hK0]
 generalize t.kids[0] = M at *
 obtain ⟨am, capm, bm, om, rfl, -, hpm, hcm⟩ := hs0.open
 obtain ⟨rfl, -, hbm⟩ := hpm (by intro e; rw [e] at hl2; simp at hl2)
 obtain ⟨u2, d20, d21, d22, ht2⟩ := hcm 2 (by omega)
 have hJ2 : kidT M 2 = M.kids[2] := kidT_eq (by omega)
 have hy2 := hv0.get (i := 2) (by omega)
 rw [hJ2]
 generalize M.kids[2] = U at *
 obtain ⟨p2, q2, rfl⟩ := ht2.form
 rw [hl2] at c02
 rw [hkd, hl]
 have hb2 := below2 w (.cells #[.int .i64 16, .int .i64 t.num, .slice (some ⟨b, o, none⟩) 1 cap] 25) (.cells #[.int .i64 0, .int .i64 0, .slice none 0 0] 25)
 have HV0 := tuck ((VarAt.new w 16 t.num (.slice (some ⟨b, o, none⟩) 1 cap)).below (below1 _ (.cells #[.int .i64 0, .int .i64 0, .slice none 0 0] 25)))
 have HV1 := tuck (var_new1 w (.cells #[.int .i64 16, .int .i64 t.num, .slice (some ⟨b, o, none⟩) 1 cap] 25) 0 0 (.slice none 0 0))
 have HRED := tuck (redS_any t hr ((w.alloc (.cells #[.int .i64 16, .int .i64 t.num, .slice (some ⟨b, o, none⟩) 1 cap] 25)).alloc (.cells #[.int .i64 0, .int .i64 0, .slice none 0 0] 25)) (.slice (some ⟨b, o, none⟩) t.kids.length cap) (hs.below hb2))
 rw [hkd, hl, e] at HRED
 have HROW : Hid (∀ w', Below w.heap.size w w' → w'.cell? ⟨b, o, none⟩ = some (.int .i64 M.kind) ∧ w'.cell? ⟨b, o + 1, none⟩ = some (.int .i64 M.num) ∧ w'.cell? ⟨b, o + 2, none⟩ = some (.slice (some ⟨bm, om, none⟩) 3 capm) ∧ w'.cell? ⟨bm, om + 6, none⟩ = some (.int .i64 U.kind) ∧ w'.cell? ⟨bm, om + 7, none⟩ = some (.int .i64 U.num) ∧ w'.cell? ⟨bm, om + 8, none⟩ = some (.slice p2 U.kids.length q2)) := tuck fun w' h =>
  ⟨(h.cell (p := ⟨b, o, none⟩) hbw).trans (by simpa using c00), (h.cell (p := ⟨b, o + 1, none⟩) hbw).trans (by simpa using c01), (h.cell (p := ⟨b, o + 2, none⟩) hbw).trans (by simpa using c02), (h.cell (p := ⟨bm, om + 6, none⟩) hbm).trans (by simpa using d20), (h.cell (p := ⟨bm, om + 7, none⟩) hbm).trans (by simpa using d21), (h.cell (p := ⟨bm, om + 8, none⟩) hbm).trans (by simpa using d22)⟩
 have HB2 := tuck hb2
 have HC : Hid (∀ w', Below w.heap.size w w' → w.heap.size + 2 ≤ w'.heap.size → Calls Tryz.prog 17 #[.agg #[.int .i64 U.kind, .int .i64 U.num, (.slice p2 U.kids.length q2)]] w' (BPost (w.heap.size + 2) w' U)) := tuck fun w' h hB => copyS_any _ U (by have := (valid_bounds hy2).1; omega) w' hB _ (ht2.below h)
 have HP : Hid (∀ w' s, Below w.heap.size w w' → SlIn w' w.heap.size U.kids s → SPost w U (.returned (.agg #[.int .i64 U.kind, .int .i64 U.num, s])) w') := tuck fun w' s h1 h2 => ⟨h1, _, rfl, s, rfl, h2⟩
 generalize SPost w U = post at *
 clear hs hr hk h0 e hkd hl hm hc hp hC hb2 c00 c01 c02 hs0 hK0 hv0 hpm hcm hl2 d20 d21 d22 ht2 hJ2 hy2
 go_enter Tryz.func51, Tryz.ntmps51
 go_wp2_with fail
 generalize ((w.alloc (.cells #[.int .i64 16, .int .i64 t.num, .slice (some ⟨b, o, none⟩) 1 cap] 25)).alloc (.cells #[.int .i64 0, .int .i64 0, .slice none 0 0] 25)) = W0 at *
 refine HRED.out.mono ?_
 rintro e' w1 ⟨rfl, hb1⟩
 obtain ⟨z0, a0', a1', a2', -⟩ := (HV0.out.below hb1).facts
 obtain ⟨z1, r0, r1, r2, rf⟩ := (HV1.out.below hb1).facts
 have HB1 := tuck (bAfter HB2.out hb1)
 have HV1' := tuck (HV1.out.below hb1)
 have HV0' := tuck (HV0.out.below hb1)
 clear hb1 HRED HV0 HV1
 obtain ⟨k0, k1, k2, k3, k4, k5⟩ := HROW.out _ HB1.out
 have zb : b < w1.heap.size := Nat.lt_of_lt_of_le hbw HB1.out.size
 go_wp2_with fail
 refine (HC.out _ HB1.out (by omega)).mono ?_
 rintro e' w2 ⟨hb2, ra, rc, rfl, hs2⟩
 replace r0 := (hb2.cell (p := ⟨w.heap.size + 1, 0, none⟩) z1).trans r0
 replace r1 := (hb2.cell (p := ⟨w.heap.size + 1, 1, none⟩) z1).trans r1
 replace r2 := (hb2.cell (p := ⟨w.heap.size + 1, 2, none⟩) z1).trans r2
 have rf2 : ∀ i, w2.frozen? ⟨w.heap.size + 1, i, none⟩ = false := fun i => (hb2.frozen (p := ⟨w.heap.size + 1, i, none⟩) z1).trans (rf i)
 have HSE := tuck hs2
 have HBE := tuck (bAfter HB1.out hb2)
 clear hb2 hs2 rf k0 k1 k2 k3 k4 k5 a0' a1' a2'
 go_wp2_with fail
 refine bodyPost_ret (v := .agg #[.int .i64 U.kind, .int .i64 U.num, .slice ra U.kids.length rc]) (by simp [results, Tryz.results51, go_sem, *]) rfl (HP.out _ _ ?_ ?_)
 ·exact bSet3 HBE.out (Nat.le_succ _) _ _ _ _ _ _
 ·exact (SlIn.set3 HSE.out (Nat.lt_succ_self _)).mono (Nat.le_add_right _ 2)
set_option maxRecDepth 100000 in
set_option maxHeartbeats 3200000 in
theorem lcontr1_any (t : Tm) (hr : t.rootOk) (hk : ∀ i (hi : i < t.kids.length), t.kids[i].Valid) (h0 : t.redex = 1) (w : World) (s : Value) (hs : SlIn w 0 t.kids s) :
  Calls Tryz.prog 51 #[.agg #[.int .i64 t.kind, .int .i64 t.num, s]] w (SPost w t.contr) := by
 obtain ⟨e, hkd, hl, hm⟩ : t.redex = 1 ∧ t.kind = 5 ∧ t.kids.length = 2 ∧ (kidT t 0).kind = 4 := by
  rcases redex_shape hr (by omega) with h | h | h | h | h | h
  all_goals first | exact h | (exfalso; have := h.1; omega)
 obtain ⟨a, cap, b, o, rfl, -, hp, hc⟩ := hs.open
 obtain ⟨rfl, -, hbw⟩ := hp (by intro e; rw [e] at hl; simp at hl)
 obtain ⟨s0, c00, c01, c02, hs0⟩ := hc 0 (by omega)
 have hK0 : kidT t 0 = t.kids[0] := kidT_eq (by omega)
 have hv0 := hk 0 (by omega)
 obtain ⟨s1, c10, c11, c12, hs1⟩ := hc 1 (by omega)
 have hK1 : kidT t 1 = t.kids[1] := kidT_eq (by omega)
 have hv1 := hk 1 (by omega)
 have hC : t.contr = (kidT (kidT t 0) 1).subst (kidT t 1) 0 0 := by unfold Tm.contr; rw [if_pos h0]
 rw [hC]
 have hl2 : (kidT t 0).kids.length = 2 := by
  have h0 : (kidT t 0).Valid := by rw [hK0]; exact hv0
  have := kid_len h0.root hm (a := 2) (by decide)
  omega
 rw [hK0] at hl2
 rw [hK0]
 rw [hK1]
 generalize t.kids[0] = M at *
 generalize t.kids[1] = A at *
 obtain ⟨am, capm, bm, om, rfl, -, hpm, hcm⟩ := hs0.open
 obtain ⟨rfl, -, hbm⟩ := hpm (by intro e; rw [e] at hl2; simp at hl2)
 obtain ⟨u1, d10, d11, d12, ht1⟩ := hcm 1 (by omega)
 have hJ1 : kidT M 1 = M.kids[1] := kidT_eq (by omega)
 have hy1 := hv0.get (i := 1) (by omega)
 rw [hJ1]
 generalize M.kids[1] = B at *
 obtain ⟨p1, q1, rfl⟩ := ht1.form
 rw [hl2] at c02
 obtain ⟨a1, n1, rfl⟩ := hs1.form
 rw [hkd, hl]
 have hb2 := below2 w (.cells #[.int .i64 5, .int .i64 t.num, .slice (some ⟨b, o, none⟩) 2 cap] 25) (.cells #[.int .i64 0, .int .i64 0, .slice none 0 0] 25)
 have HV0 := tuck ((VarAt.new w 5 t.num (.slice (some ⟨b, o, none⟩) 2 cap)).below (below1 _ (.cells #[.int .i64 0, .int .i64 0, .slice none 0 0] 25)))
 have HV1 := tuck (var_new1 w (.cells #[.int .i64 5, .int .i64 t.num, .slice (some ⟨b, o, none⟩) 2 cap] 25) 0 0 (.slice none 0 0))
 have HRED := tuck (redS_any t hr ((w.alloc (.cells #[.int .i64 5, .int .i64 t.num, .slice (some ⟨b, o, none⟩) 2 cap] 25)).alloc (.cells #[.int .i64 0, .int .i64 0, .slice none 0 0] 25)) (.slice (some ⟨b, o, none⟩) t.kids.length cap) (hs.below hb2))
 rw [hkd, hl, e] at HRED
 have HROW : Hid (∀ w', Below w.heap.size w w' → w'.cell? ⟨b, o, none⟩ = some (.int .i64 M.kind) ∧ w'.cell? ⟨b, o + 1, none⟩ = some (.int .i64 M.num) ∧ w'.cell? ⟨b, o + 2, none⟩ = some (.slice (some ⟨bm, om, none⟩) 2 capm) ∧ w'.cell? ⟨b, o + 3, none⟩ = some (.int .i64 A.kind) ∧ w'.cell? ⟨b, o + 4, none⟩ = some (.int .i64 A.num) ∧ w'.cell? ⟨b, o + 5, none⟩ = some (.slice a1 A.kids.length n1) ∧ w'.cell? ⟨bm, om + 3, none⟩ = some (.int .i64 B.kind) ∧ w'.cell? ⟨bm, om + 4, none⟩ = some (.int .i64 B.num) ∧ w'.cell? ⟨bm, om + 5, none⟩ = some (.slice p1 B.kids.length q1)) := tuck fun w' h =>
  ⟨(h.cell (p := ⟨b, o, none⟩) hbw).trans (by simpa using c00), (h.cell (p := ⟨b, o + 1, none⟩) hbw).trans (by simpa using c01), (h.cell (p := ⟨b, o + 2, none⟩) hbw).trans (by simpa using c02), (h.cell (p := ⟨b, o + 3, none⟩) hbw).trans (by simpa using c10), (h.cell (p := ⟨b, o + 4, none⟩) hbw).trans (by simpa using c11), (h.cell (p := ⟨b, o + 5, none⟩) hbw).trans (by simpa using c12), (h.cell (p := ⟨bm, om + 3, none⟩) hbm).trans (by simpa using d10), (h.cell (p := ⟨bm, om + 4, none⟩) hbm).trans (by simpa using d11), (h.cell (p := ⟨bm, om + 5, none⟩) hbm).trans (by simpa using d12)⟩
 have HB2 := tuck hb2
 have hB5 := hy1.root
 have HC : Hid (∀ w', Below w.heap.size w w' → w.heap.size + 2 ≤ w'.heap.size → Calls Tryz.prog 64 #[.agg #[.int .i64 B.kind, .int .i64 B.num, .slice p1 B.kids.length q1], .int .i64 0, .agg #[.int .i64 A.kind, .int .i64 A.num, .slice a1 A.kids.length n1], .int .i64 0] w' (BPost (w.heap.size + 2) w' (B.subst A 0 0))) := tuck fun w' h hB => by
  have hb := valid_bounds hy1
  have hn := root_num2 hB5
  have hln := root_len hB5
  have h2 := lsubst_any hv1 B.kids B.kind B.num 0 0 w' _ _ (by omega) (by omega) (by omega) (by omega) (by omega) (by omega) (by omega) (fun x hx => (allsOk_iff _).1 (B.allOk_iff.1 hy1.1).2 x hx) (ht1.below h) (hs1.below h)
  rw [Tm.eta] at h2
  exact h2.mono fun _ _ h => h.b hB
 have HP : Hid (∀ w' s, Below w.heap.size w w' → SlIn w' w.heap.size (B.subst A 0 0).kids s → SPost w (B.subst A 0 0) (.returned (.agg #[.int .i64 (B.subst A 0 0).kind, .int .i64 (B.subst A 0 0).num, s])) w') := tuck fun w' s h1 h2 => ⟨h1, _, rfl, s, rfl, h2⟩
 generalize SPost w (B.subst A 0 0) = post at *
 clear hs hr hk h0 e hkd hl hm hc hp hC hb2 c00 c01 c02 c10 c11 c12 hs0 hK0 hv0 hs1 hK1 hv1 hpm hcm hl2 d10 d11 d12 ht1 hJ1 hy1
 clear hB5
 go_enter Tryz.func51, Tryz.ntmps51
 go_wp2_with fail
 generalize ((w.alloc (.cells #[.int .i64 5, .int .i64 t.num, .slice (some ⟨b, o, none⟩) 2 cap] 25)).alloc (.cells #[.int .i64 0, .int .i64 0, .slice none 0 0] 25)) = W0 at *
 refine HRED.out.mono ?_
 rintro e' w1 ⟨rfl, hb1⟩
 obtain ⟨z0, a0', a1', a2', -⟩ := (HV0.out.below hb1).facts
 obtain ⟨z1, r0, r1, r2, rf⟩ := (HV1.out.below hb1).facts
 have HB1 := tuck (bAfter HB2.out hb1)
 have HV1' := tuck (HV1.out.below hb1)
 have HV0' := tuck (HV0.out.below hb1)
 clear hb1 HRED HV0 HV1
 obtain ⟨k0, k1, k2, k3, k4, k5, k6, k7, k8⟩ := HROW.out _ HB1.out
 have zb : b < w1.heap.size := Nat.lt_of_lt_of_le hbw HB1.out.size
 have HLE : Hid (w.heap.size + 2 ≤ w1.drew.heap.size) := tuck (show w.heap.size + 2 ≤ w1.heap.size by omega)
 have HCELLS : Hid (∀ w', Below w.heap.size w w' ∧ VarAt w.heap.size 5 t.num (.slice (some ⟨b, o, none⟩) 2 cap) w' → w'.cell? ⟨w.heap.size, 2, none⟩ = some (.slice (some ⟨b, o, none⟩) 2 cap) ∧ w'.cell? ⟨b, o, none⟩ = some (.int .i64 M.kind) ∧ w'.cell? ⟨b, o + 1, none⟩ = some (.int .i64 M.num) ∧ w'.cell? ⟨b, o + 2, none⟩ = some (.slice (some ⟨bm, om, none⟩) 2 capm) ∧ w'.cell? ⟨b, o + 3, none⟩ = some (.int .i64 A.kind) ∧ w'.cell? ⟨b, o + 4, none⟩ = some (.int .i64 A.num) ∧ w'.cell? ⟨b, o + 5, none⟩ = some (.slice a1 A.kids.length n1) ∧ w'.cell? ⟨bm, om + 3, none⟩ = some (.int .i64 B.kind) ∧ w'.cell? ⟨bm, om + 4, none⟩ = some (.int .i64 B.num) ∧ w'.cell? ⟨bm, om + 5, none⟩ = some (.slice p1 B.kids.length q1)) := tuck fun w' h => ⟨h.2.facts.2.2.2.1, HROW.out w' h.1⟩
 clear k0 k1 k2 k3 k4 k5 k6 k7 k8 a0' a1' a2'
 have HS0 : Hid ((fun w' : World => Below w.heap.size w w' ∧ VarAt w.heap.size 5 t.num (.slice (some ⟨b, o, none⟩) 2 cap) w') w1.drew) := tuck ⟨bAfter HB1.out (Below.refl _ _).drew, HV0'.out.below (Below.refl _ _).drew⟩
 go_wp2_with fail
 have HT12 : ∀ w' : World, (fun w' : World => Below w.heap.size w w' ∧ VarAt w.heap.size 5 t.num (.slice (some ⟨b, o, none⟩) 2 cap) w') w' → (fun w' : World => Below w.heap.size w w' ∧ VarAt w.heap.size 5 t.num (.slice (some ⟨b, o, none⟩) 2 cap) w') w' := fun w' h => h
 refine AnyTwo.begin (fun w' : World => Below w.heap.size w w' ∧ VarAt w.heap.size 5 t.num (.slice (some ⟨b, o, none⟩) 2 cap) w') (fun w' : World => Below w.heap.size w w' ∧ VarAt w.heap.size 5 t.num (.slice (some ⟨b, o, none⟩) 2 cap) w') 12 (by kernel_rfl) ?_
 have hS1 : (fun w' : World => Below w.heap.size w w' ∧ VarAt w.heap.size 5 t.num (.slice (some ⟨b, o, none⟩) 2 cap) w') w1.drew := HS0.out
 refine AnyTwo.takeAny HT12 (i := 0) (oi := ⟨some 9, _, _, _, _, _⟩) (v := ?v0) rfl (by kernel_rfl) (by kernel_rfl) (by decide +kernel) (by rfl) (fun _ _ _ h => h) (Or.inl ⟨by rfl, ?y0⟩) (ph_one (by kernel_rfl) hS1) ?r0
 case y0 => (intro w hSw; (try dsimp only at hSw); obtain ⟨x, x0, x1, x2, x3, x4, x5, x6, x7, x8⟩ := HCELLS.out _ hSw; go_simp; try (with_reducible rfl))
 try simp only [pts]
 refine AnyTwo.takeAny HT12 (i := 1) (oi := ⟨some 10, _, _, _, _, _⟩) (v := ?v1) rfl (by kernel_rfl) (by kernel_rfl) (by decide +kernel) (by rfl) (fun _ _ _ h => h) (Or.inl ⟨by rfl, ?y1⟩) (ph_one (by kernel_rfl) hS1) ?r1
 case y1 => (intro w hSw; (try dsimp only at hSw); obtain ⟨x, x0, x1, x2, x3, x4, x5, x6, x7, x8⟩ := HCELLS.out _ hSw; go_simp; try (with_reducible rfl))
 try simp only [pts]
 refine AnyTwo.takeAny HT12 (i := 2) (oi := ⟨some 11, _, _, _, _, _⟩) (v := ?v2) rfl (by kernel_rfl) (by kernel_rfl) (by decide +kernel) (by rfl) (fun _ _ _ h => h) (Or.inl ⟨by rfl, ?y2⟩) (ph_one (by kernel_rfl) hS1) ?r2
 case y2 => (intro w hSw; (try dsimp only at hSw); obtain ⟨x, x0, x1, x2, x3, x4, x5, x6, x7, x8⟩ := HCELLS.out _ hSw; go_simp; try (with_reducible rfl))
 try simp only [pts]
 refine AnyTwo.takeAny HT12 (i := 3) (oi := ⟨some 12, _, _, _, _, _⟩) (v := ?v3) rfl (by kernel_rfl) (by kernel_rfl) (by decide +kernel) (by rfl) (fun _ _ _ h => h) (Or.inl ⟨by rfl, ?y3⟩) (ph_one (by kernel_rfl) hS1) ?r3
 case y3 => (intro w hSw; (try dsimp only at hSw); obtain ⟨x, x0, x1, x2, x3, x4, x5, x6, x7, x8⟩ := HCELLS.out _ hSw; go_simp; try (with_reducible rfl))
 try simp only [pts]
 refine AnyTwo.takeAny HT12 (i := 4) (oi := ⟨some 13, _, _, _, _, _⟩) (v := ?v4) rfl (by kernel_rfl) (by kernel_rfl) (by decide +kernel) (by rfl) (fun _ _ _ h => h) (Or.inl ⟨by rfl, ?y4⟩) (ph_one (by kernel_rfl) hS1) ?r4
 case y4 => (intro w hSw; (try dsimp only at hSw); obtain ⟨x, x0, x1, x2, x3, x4, x5, x6, x7, x8⟩ := HCELLS.out _ hSw; go_simp; try (with_reducible rfl))
 try simp only [pts]
 refine AnyTwo.takeAny HT12 (i := 5) (oi := ⟨some 14, _, _, _, _, _⟩) (v := ?v5) rfl (by kernel_rfl) (by kernel_rfl) (by decide +kernel) (by rfl) (fun _ _ _ h => h) (Or.inl ⟨by rfl, ?y5⟩) (ph_one (by kernel_rfl) hS1) ?r5
 case y5 => (intro w hSw; (try dsimp only at hSw); obtain ⟨x, x0, x1, x2, x3, x4, x5, x6, x7, x8⟩ := HCELLS.out _ hSw; go_simp; try (with_reducible rfl))
 try simp only [pts]
 refine AnyTwo.takeAny HT12 (i := 6) (oi := ⟨some 15, _, _, _, _, _⟩) (v := ?v6) rfl (by kernel_rfl) (by kernel_rfl) (by decide +kernel) (by rfl) (fun _ _ _ h => h) (Or.inl ⟨by rfl, ?y6⟩) (ph_one (by kernel_rfl) hS1) ?r6
 case y6 => (intro w hSw; (try dsimp only at hSw); obtain ⟨x, x0, x1, x2, x3, x4, x5, x6, x7, x8⟩ := HCELLS.out _ hSw; go_simp; try (with_reducible rfl))
 try simp only [pts]
 refine AnyTwo.takeAny HT12 (i := 7) (oi := ⟨some 16, _, _, _, _, _⟩) (v := ?v7) rfl (by kernel_rfl) (by kernel_rfl) (by decide +kernel) (by rfl) (fun _ _ _ h => h) (Or.inl ⟨by rfl, ?y7⟩) (ph_one (by kernel_rfl) hS1) ?r7
 case y7 => (intro w hSw; (try dsimp only at hSw); obtain ⟨x, x0, x1, x2, x3, x4, x5, x6, x7, x8⟩ := HCELLS.out _ hSw; go_simp; try (with_reducible rfl))
 try simp only [pts]
 refine AnyTwo.takeAny HT12 (i := 8) (oi := ⟨some 17, _, _, _, _, _⟩) (v := ?v8) rfl (by kernel_rfl) (by kernel_rfl) (by decide +kernel) (by rfl) (fun _ _ _ h => h) (Or.inl ⟨by rfl, ?y8⟩) (ph_one (by kernel_rfl) hS1) ?r8
 case y8 => (intro w hSw; (try dsimp only at hSw); obtain ⟨x, x0, x1, x2, x3, x4, x5, x6, x7, x8⟩ := HCELLS.out _ hSw; go_simp; try (with_reducible rfl))
 try simp only [pts]
 refine AnyTwo.takeAny HT12 (i := 9) (oi := ⟨some 18, _, _, _, _, _⟩) (v := ?v9) rfl (by kernel_rfl) (by kernel_rfl) (by decide +kernel) (by rfl) (fun _ _ _ h => h) (Or.inl ⟨by rfl, ?y9⟩) (ph_one (by kernel_rfl) hS1) ?r9
 case y9 => (intro w hSw; (try dsimp only at hSw); obtain ⟨x, x0, x1, x2, x3, x4, x5, x6, x7, x8⟩ := HCELLS.out _ hSw; go_simp; try (with_reducible rfl))
 try simp only [pts]
 refine AnyTwo.takeAny HT12 (i := 10) (oi := ⟨some 19, _, _, _, _, _⟩) (v := ?v10) rfl (by kernel_rfl) (by kernel_rfl) (by decide +kernel) (by rfl) (fun _ _ _ h => h) (Or.inl ⟨by rfl, ?y10⟩) (ph_one (by kernel_rfl) hS1) ?r10
 case y10 => (intro w hSw; (try dsimp only at hSw); obtain ⟨x, x0, x1, x2, x3, x4, x5, x6, x7, x8⟩ := HCELLS.out _ hSw; go_simp; try (with_reducible rfl))
 try simp only [pts]
 clear HT12
 refine AnyTwo.step (i := 11) (o := ⟨some 20, _, _, _, _, _⟩) (by kernel_rfl) rfl (fun K hK => ?_)
 go_simp
 refine (HC.out _ hS1.1 HLE.out).mono ?_
 rintro e' w2 ⟨hb2, ra, rc, rfl, hs2⟩
 have hS1' : (fun w' : World => Below w.heap.size w w' ∧ VarAt w.heap.size 5 t.num (.slice (some ⟨b, o, none⟩) 2 cap) w') w2 := ⟨bAfter hS1.1 hb2, hS1.2.below hb2⟩
 refine hK.out _ _ (ph_one (by kernel_rfl) hS1') ?_
 clear hK K
 try simp only [pts]
 have HSE := tuck hs2
 have HBE := tuck hS1'.1
 obtain ⟨z2, r0, r1, r2, rf⟩ := ((HV1'.out.below (Below.refl _ _).drew).below hb2).facts
 clear hb2 hs2 hS1
 replace hS1 := hS1'
 clear hS1'
 generalize B.subst A 0 0 = T at *
 refine AnyTwo.step (i := 12) (o := ⟨none, _, _, _, _, _⟩) (by kernel_rfl) rfl (fun K hK => ?_)
 go_simp
 have hS1' : (fun w' : World => Below w.heap.size w w' ∧ VarAt w.heap.size 5 t.num (.slice (some ⟨b, o, none⟩) 2 cap) w') _ := ⟨bSet3 hS1.1 (Nat.le_succ _) 0 1 2 (.int .i64 T.kind) (.int .i64 T.num) (.slice ra T.kids.length rc), hS1.2.far3 (Nat.ne_of_lt (Nat.lt_succ_self _)) 0 1 2 (.int .i64 T.kind) (.int .i64 T.num) (.slice ra T.kids.length rc)⟩
 refine hK.out _ _ (ph_end (by kernel_rfl) hS1') ?_
 clear hK K
 try simp only [pts]
 refine AnyTwo.done (by kernel_rfl) ?_ _
 go_wp2_with fail
 refine bodyPost_ret (v := .agg #[.int .i64 T.kind, .int .i64 T.num, .slice ra T.kids.length rc]) (by simp [results, Tryz.results51, go_sem, *]) rfl (HP.out _ _ ?_ ?_)
 ·exact bSet3 HBE.out (Nat.le_succ _) _ _ _ _ _ _
 ·exact (SlIn.set3 HSE.out (Nat.lt_succ_self _)).mono (Nat.le_add_right _ 2)
set_option maxRecDepth 100000 in
set_option maxHeartbeats 3200000 in
theorem lcontr3_any (t : Tm) (hr : t.rootOk) (hk : ∀ i (hi : i < t.kids.length), t.kids[i].Valid) (h0 : t.redex = 3) (w : World) (s : Value) (hs : SlIn w 0 t.kids s) :
  Calls Tryz.prog 51 #[.agg #[.int .i64 t.kind, .int .i64 t.num, s]] w (SPost w t.contr) := by
 obtain ⟨e, hkd, hl, hm⟩ : t.redex = 3 ∧ t.kind = 9 ∧ t.kids.length = 4 ∧ (kidT t 3).kind = 8 := by
  rcases redex_shape hr (by omega) with h | h | h | h | h | h
  all_goals first | exact h | (exfalso; have := h.1; omega)
 obtain ⟨a, cap, b, o, rfl, -, hp, hc⟩ := hs.open
 obtain ⟨rfl, -, hbw⟩ := hp (by intro e; rw [e] at hl; simp at hl)
 obtain ⟨s0, c00, c01, c02, hs0⟩ := hc 0 (by omega)
 have hK0 : kidT t 0 = t.kids[0] := kidT_eq (by omega)
 have hv0 := hk 0 (by omega)
 obtain ⟨s1, c10, c11, c12, hs1⟩ := hc 1 (by omega)
 have hK1 : kidT t 1 = t.kids[1] := kidT_eq (by omega)
 have hv1 := hk 1 (by omega)
 obtain ⟨s2, c20, c21, c22, hs2⟩ := hc 2 (by omega)
 have hK2 : kidT t 2 = t.kids[2] := kidT_eq (by omega)
 have hv2 := hk 2 (by omega)
 obtain ⟨s3, c30, c31, c32, hs3⟩ := hc 3 (by omega)
 have hK3 : kidT t 3 = t.kids[3] := kidT_eq (by omega)
 have hv3 := hk 3 (by omega)
 have hC : t.contr = .mk 5 0 [.mk 5 0 [kidT t 2, kidT (kidT t 3) 0], .mk 9 0 [kidT t 0, kidT t 1, kidT t 2, kidT (kidT t 3) 0]] := by unfold Tm.contr; rw [if_neg (by omega), if_neg (by omega), if_pos h0]
 rw [hC]
 have hl2 : (kidT t 3).kids.length = 1 := by
  have h0 : (kidT t 3).Valid := by rw [hK3]; exact hv3
  have := kid_len h0.root hm (a := 1) (by decide)
  omega
 rw [hK3] at hl2
 rw [hK0]
 rw [hK1]
 rw [hK2]
 rw [hK3]
 generalize t.kids[0] = P at *
 generalize t.kids[1] = Z at *
 generalize t.kids[2] = S at *
 generalize t.kids[3] = M at *
 obtain ⟨am, capm, bm, om, rfl, -, hpm, hcm⟩ := hs3.open
 obtain ⟨rfl, -, hbm⟩ := hpm (by intro e; rw [e] at hl2; simp at hl2)
 obtain ⟨u0, d00, d01, d02, ht0⟩ := hcm 0 (by omega)
 have hJ0 : kidT M 0 = M.kids[0] := kidT_eq (by omega)
 have hy0 := hv3.get (i := 0) (by omega)
 rw [hJ0]
 generalize M.kids[0] = B at *
 obtain ⟨p0, q0, rfl⟩ := ht0.form
 rw [hl2] at c32
 obtain ⟨a0, n0, rfl⟩ := hs0.form
 obtain ⟨a1, n1, rfl⟩ := hs1.form
 obtain ⟨a2, n2, rfl⟩ := hs2.form
 rw [hkd, hl]
 have hb2 := below2 w (.cells #[.int .i64 9, .int .i64 t.num, .slice (some ⟨b, o, none⟩) 4 cap] 25) (.cells #[.int .i64 0, .int .i64 0, .slice none 0 0] 25)
 have HV0 := tuck ((VarAt.new w 9 t.num (.slice (some ⟨b, o, none⟩) 4 cap)).below (below1 _ (.cells #[.int .i64 0, .int .i64 0, .slice none 0 0] 25)))
 have HV1 := tuck (var_new1 w (.cells #[.int .i64 9, .int .i64 t.num, .slice (some ⟨b, o, none⟩) 4 cap] 25) 0 0 (.slice none 0 0))
 have HRED := tuck (redS_any t hr ((w.alloc (.cells #[.int .i64 9, .int .i64 t.num, .slice (some ⟨b, o, none⟩) 4 cap] 25)).alloc (.cells #[.int .i64 0, .int .i64 0, .slice none 0 0] 25)) (.slice (some ⟨b, o, none⟩) t.kids.length cap) (hs.below hb2))
 rw [hkd, hl, e] at HRED
 have HROW : Hid (∀ w', Below w.heap.size w w' → w'.cell? ⟨b, o, none⟩ = some (.int .i64 P.kind) ∧ w'.cell? ⟨b, o + 1, none⟩ = some (.int .i64 P.num) ∧ w'.cell? ⟨b, o + 2, none⟩ = some (.slice a0 P.kids.length n0) ∧ w'.cell? ⟨b, o + 3, none⟩ = some (.int .i64 Z.kind) ∧ w'.cell? ⟨b, o + 4, none⟩ = some (.int .i64 Z.num) ∧ w'.cell? ⟨b, o + 5, none⟩ = some (.slice a1 Z.kids.length n1) ∧ w'.cell? ⟨b, o + 6, none⟩ = some (.int .i64 S.kind) ∧ w'.cell? ⟨b, o + 7, none⟩ = some (.int .i64 S.num) ∧ w'.cell? ⟨b, o + 8, none⟩ = some (.slice a2 S.kids.length n2) ∧ w'.cell? ⟨b, o + 9, none⟩ = some (.int .i64 M.kind) ∧ w'.cell? ⟨b, o + 10, none⟩ = some (.int .i64 M.num) ∧ w'.cell? ⟨b, o + 11, none⟩ = some (.slice (some ⟨bm, om, none⟩) 1 capm) ∧ w'.cell? ⟨bm, om, none⟩ = some (.int .i64 B.kind) ∧ w'.cell? ⟨bm, om + 1, none⟩ = some (.int .i64 B.num) ∧ w'.cell? ⟨bm, om + 2, none⟩ = some (.slice p0 B.kids.length q0)) := tuck fun w' h =>
  ⟨(h.cell (p := ⟨b, o, none⟩) hbw).trans (by simpa using c00), (h.cell (p := ⟨b, o + 1, none⟩) hbw).trans (by simpa using c01), (h.cell (p := ⟨b, o + 2, none⟩) hbw).trans (by simpa using c02), (h.cell (p := ⟨b, o + 3, none⟩) hbw).trans (by simpa using c10), (h.cell (p := ⟨b, o + 4, none⟩) hbw).trans (by simpa using c11), (h.cell (p := ⟨b, o + 5, none⟩) hbw).trans (by simpa using c12), (h.cell (p := ⟨b, o + 6, none⟩) hbw).trans (by simpa using c20), (h.cell (p := ⟨b, o + 7, none⟩) hbw).trans (by simpa using c21), (h.cell (p := ⟨b, o + 8, none⟩) hbw).trans (by simpa using c22), (h.cell (p := ⟨b, o + 9, none⟩) hbw).trans (by simpa using c30), (h.cell (p := ⟨b, o + 10, none⟩) hbw).trans (by simpa using c31), (h.cell (p := ⟨b, o + 11, none⟩) hbw).trans (by simpa using c32), (h.cell (p := ⟨bm, om, none⟩) hbm).trans (by simpa using d00), (h.cell (p := ⟨bm, om + 1, none⟩) hbm).trans (by simpa using d01), (h.cell (p := ⟨bm, om + 2, none⟩) hbm).trans (by simpa using d02)⟩
 have HB2 := tuck hb2
 have HCP : Hid (∀ w', Below w.heap.size w w' → Calls Tryz.prog 17 #[.agg #[.int .i64 P.kind, .int .i64 P.num, .slice a0 P.kids.length n0]] w' (BPost w'.heap.size w' P)) := tuck fun w' h => copyS_any _ P (by have := (valid_bounds hv0).1; omega) w' (Nat.le_refl _) _ (hs0.below h)
 have HCZ : Hid (∀ w', Below w.heap.size w w' → Calls Tryz.prog 17 #[.agg #[.int .i64 Z.kind, .int .i64 Z.num, .slice a1 Z.kids.length n1]] w' (BPost w'.heap.size w' Z)) := tuck fun w' h => copyS_any _ Z (by have := (valid_bounds hv1).1; omega) w' (Nat.le_refl _) _ (hs1.below h)
 have HCS : Hid (∀ w', Below w.heap.size w w' → Calls Tryz.prog 17 #[.agg #[.int .i64 S.kind, .int .i64 S.num, .slice a2 S.kids.length n2]] w' (BPost w'.heap.size w' S)) := tuck fun w' h => copyS_any _ S (by have := (valid_bounds hv2).1; omega) w' (Nat.le_refl _) _ (hs2.below h)
 have HCB : Hid (∀ w', Below w.heap.size w w' → Calls Tryz.prog 17 #[.agg #[.int .i64 B.kind, .int .i64 B.num, .slice p0 B.kids.length q0]] w' (BPost w'.heap.size w' B)) := tuck fun w' h => copyS_any _ B (by have := (valid_bounds hy0).1; omega) w' (Nat.le_refl _) _ (ht0.below h)
 have HP : Hid (∀ w' s, Below w.heap.size w w' → SlIn w' w.heap.size (Tm.mk 5 0 [.mk 5 0 [S, B], .mk 9 0 [P, Z, S, B]]).kids s → SPost w (Tm.mk 5 0 [.mk 5 0 [S, B], .mk 9 0 [P, Z, S, B]]) (.returned (.agg #[.int .i64 (Tm.mk 5 0 [.mk 5 0 [S, B], .mk 9 0 [P, Z, S, B]]).kind, .int .i64 (Tm.mk 5 0 [.mk 5 0 [S, B], .mk 9 0 [P, Z, S, B]]).num, s])) w') := tuck fun w' s h1 h2 => ⟨h1, _, rfl, s, rfl, h2⟩
 generalize SPost w (Tm.mk 5 0 [.mk 5 0 [S, B], .mk 9 0 [P, Z, S, B]]) = post at *
 clear hs hr hk h0 e hkd hl hm hc hp hC hb2 c00 c01 c02 c10 c11 c12 c20 c21 c22 c30 c31 c32 hs0 hK0 hv0 hs1 hK1 hv1 hs2 hK2 hv2 hs3 hK3 hv3 hpm hcm hl2 d00 d01 d02 ht0 hJ0 hy0
 go_enter Tryz.func51, Tryz.ntmps51
 go_wp2_with fail
 generalize ((w.alloc (.cells #[.int .i64 9, .int .i64 t.num, .slice (some ⟨b, o, none⟩) 4 cap] 25)).alloc (.cells #[.int .i64 0, .int .i64 0, .slice none 0 0] 25)) = W0 at *
 refine HRED.out.mono ?_
 rintro e' w1 ⟨rfl, hb1⟩
 obtain ⟨z0, a0', a1', a2', -⟩ := (HV0.out.below hb1).facts
 obtain ⟨z1, r0, r1, r2, rf⟩ := (HV1.out.below hb1).facts
 have HB1 := tuck (bAfter HB2.out hb1)
 have HV1' := tuck (HV1.out.below hb1)
 have HV0' := tuck (HV0.out.below hb1)
 clear hb1 HRED HV0 HV1
 obtain ⟨k0, k1, k2, k3, k4, k5, k6, k7, k8, k9, k10, k11, k12, k13, k14⟩ := HROW.out _ HB1.out
 have zb : b < w1.heap.size := Nat.lt_of_lt_of_le hbw HB1.out.size
 have HLE : Hid (w.heap.size + 2 ≤ w1.heap.size) := tuck (by omega)
 have HBN := tuck (below1 w1 (.cells #[.int .i64 B.kind, .int .i64 B.num, .slice p0 B.kids.length q0] 25))
 have HVN := tuck (VarAt.new w1 B.kind B.num (.slice p0 B.kids.length q0))
 have HCELLS : Hid (∀ w', Below w.heap.size w w' ∧ VarAt w.heap.size 9 t.num (.slice (some ⟨b, o, none⟩) 4 cap) w' ∧ VarAt w1.heap.size B.kind B.num (.slice p0 B.kids.length q0) w' → w'.cell? ⟨w.heap.size, 2, none⟩ = some (.slice (some ⟨b, o, none⟩) 4 cap) ∧ w'.cell? ⟨w1.heap.size, 0, none⟩ = some (.int .i64 B.kind) ∧ w'.cell? ⟨w1.heap.size, 1, none⟩ = some (.int .i64 B.num) ∧ w'.cell? ⟨w1.heap.size, 2, none⟩ = some (.slice p0 B.kids.length q0) ∧ w'.cell? ⟨b, o, none⟩ = some (.int .i64 P.kind) ∧ w'.cell? ⟨b, o + 1, none⟩ = some (.int .i64 P.num) ∧ w'.cell? ⟨b, o + 2, none⟩ = some (.slice a0 P.kids.length n0) ∧ w'.cell? ⟨b, o + 3, none⟩ = some (.int .i64 Z.kind) ∧ w'.cell? ⟨b, o + 4, none⟩ = some (.int .i64 Z.num) ∧ w'.cell? ⟨b, o + 5, none⟩ = some (.slice a1 Z.kids.length n1) ∧ w'.cell? ⟨b, o + 6, none⟩ = some (.int .i64 S.kind) ∧ w'.cell? ⟨b, o + 7, none⟩ = some (.int .i64 S.num) ∧ w'.cell? ⟨b, o + 8, none⟩ = some (.slice a2 S.kids.length n2) ∧ w'.cell? ⟨b, o + 9, none⟩ = some (.int .i64 M.kind) ∧ w'.cell? ⟨b, o + 10, none⟩ = some (.int .i64 M.num) ∧ w'.cell? ⟨b, o + 11, none⟩ = some (.slice (some ⟨bm, om, none⟩) 1 capm) ∧ w'.cell? ⟨bm, om, none⟩ = some (.int .i64 B.kind) ∧ w'.cell? ⟨bm, om + 1, none⟩ = some (.int .i64 B.num) ∧ w'.cell? ⟨bm, om + 2, none⟩ = some (.slice p0 B.kids.length q0)) := tuck fun w' h => ⟨h.2.1.facts.2.2.2.1, h.2.2.facts.2.1, h.2.2.facts.2.2.1, h.2.2.facts.2.2.2.1, HROW.out w' h.1⟩
 go_wp2_with fail
 clear k0 k1 k2 k3 k4 k5 k6 k7 k8 k9 k10 k11 k12 k13 k14 a0' a1' a2'
 generalize w1.alloc (.cells #[.int .i64 B.kind, .int .i64 B.num, .slice p0 B.kids.length q0] 25) = W2 at *
 replace HLE := tuck (Nat.le_trans HLE.out HBN.out.size)
 have HT2 := tuck (HV0'.out.below HBN.out)
 have HZ2 := tuck (HV1'.out.below HBN.out)
 have HW2 := tuck (bAfter HB1.out HBN.out)
 have hgN : w.heap.size + 2 ≤ w1.heap.size := by omega
 generalize w1.heap.size = gN at *
 clear HB1 HV0' HV1' HBN z0 z1 r0 r1 r2 rf zb
 have HS0 : Hid ((fun w' : World => Below w.heap.size w w' ∧ VarAt w.heap.size 9 t.num (.slice (some ⟨b, o, none⟩) 4 cap) w' ∧ VarAt gN B.kind B.num (.slice p0 B.kids.length q0) w') W2.drew) := tuck ⟨bAfter HW2.out (Below.refl _ _).drew, HT2.out.below (Below.refl _ _).drew, HVN.out.below (Below.refl _ _).drew⟩
 replace HZ2 := tuck (HZ2.out.below (Below.refl _ _).drew)
 replace HLE : Hid (w.heap.size + 2 ≤ W2.drew.heap.size) := HLE.out
 go_upto_region 8 with fail
 go_cut [4] (fun p4 wx => ∃ (g4 : Nat) (ra : Option Addr) (rc : Nat), p4 = .pointer (some ⟨g4, 0, none⟩) ∧ Below w.heap.size w wx ∧ VarAt w.heap.size 9 t.num (.slice (some ⟨b, o, none⟩) 4 cap) wx ∧ VarAt gN B.kind B.num (.slice p0 B.kids.length q0) wx ∧ VarAt g4 9 0 (.slice ra 4 rc) wx ∧ SlX wx (fun i => i < w.heap.size + 2) [P, Z, S, B] (.slice ra 4 rc) ∧ w.heap.size + 2 ≤ wx.heap.size ∧ VarAt (w.heap.size + 1) 0 0 (.slice none 0 0) wx ∧ w.heap.size + 2 ≤ g4)
 case first =>
  have HT12 : ∀ w' : World, (fun w' : World => Below w.heap.size w w' ∧ VarAt w.heap.size 9 t.num (.slice (some ⟨b, o, none⟩) 4 cap) w' ∧ VarAt gN B.kind B.num (.slice p0 B.kids.length q0) w') w' → (fun w' : World => Below w.heap.size w w' ∧ VarAt w.heap.size 9 t.num (.slice (some ⟨b, o, none⟩) 4 cap) w' ∧ VarAt gN B.kind B.num (.slice p0 B.kids.length q0) w') w' := fun w' h => h
  refine AnyTwo.begin (fun w' : World => Below w.heap.size w w' ∧ VarAt w.heap.size 9 t.num (.slice (some ⟨b, o, none⟩) 4 cap) w' ∧ VarAt gN B.kind B.num (.slice p0 B.kids.length q0) w') (fun w' : World => Below w.heap.size w w' ∧ VarAt w.heap.size 9 t.num (.slice (some ⟨b, o, none⟩) 4 cap) w' ∧ VarAt gN B.kind B.num (.slice p0 B.kids.length q0) w') 20 (by kernel_rfl) ?_
  have hS1 : (fun w' : World => Below w.heap.size w w' ∧ VarAt w.heap.size 9 t.num (.slice (some ⟨b, o, none⟩) 4 cap) w' ∧ VarAt gN B.kind B.num (.slice p0 B.kids.length q0) w') W2.drew := HS0.out
  refine AnyTwo.takeAny HT12 (i := 0) (oi := ⟨some 37, _, _, _, _, _⟩) (v := ?v0) rfl (by kernel_rfl) (by kernel_rfl) (by decide +kernel) (by rfl) (fun _ _ _ h => h) (Or.inl ⟨by rfl, ?y0⟩) (ph_one (by kernel_rfl) hS1) ?r0
  case y0 => (intro w hSw; (try dsimp only at hSw); obtain ⟨x0, x1, x2, x3, x4, x5, x6, x7, x8, x9, x10, x11, x12, x13, x14, x15, x16, x17, x18⟩ := HCELLS.out _ hSw; go_simp; try (with_reducible rfl))
  try simp only [pts]
  refine AnyTwo.takeAny HT12 (i := 1) (oi := ⟨some 38, _, _, _, _, _⟩) (v := ?v1) rfl (by kernel_rfl) (by kernel_rfl) (by decide +kernel) (by rfl) (fun _ _ _ h => h) (Or.inl ⟨by rfl, ?y1⟩) (ph_one (by kernel_rfl) hS1) ?r1
  case y1 => (intro w hSw; (try dsimp only at hSw); obtain ⟨x0, x1, x2, x3, x4, x5, x6, x7, x8, x9, x10, x11, x12, x13, x14, x15, x16, x17, x18⟩ := HCELLS.out _ hSw; go_simp; try (with_reducible rfl))
  try simp only [pts]
  refine AnyTwo.takeAny HT12 (i := 2) (oi := ⟨some 39, _, _, _, _, _⟩) (v := ?v2) rfl (by kernel_rfl) (by kernel_rfl) (by decide +kernel) (by rfl) (fun _ _ _ h => h) (Or.inl ⟨by rfl, ?y2⟩) (ph_one (by kernel_rfl) hS1) ?r2
  case y2 => (intro w hSw; (try dsimp only at hSw); obtain ⟨x0, x1, x2, x3, x4, x5, x6, x7, x8, x9, x10, x11, x12, x13, x14, x15, x16, x17, x18⟩ := HCELLS.out _ hSw; go_simp; try (with_reducible rfl))
  try simp only [pts]
  refine AnyTwo.takeAny HT12 (i := 3) (oi := ⟨some 40, _, _, _, _, _⟩) (v := ?v3) rfl (by kernel_rfl) (by kernel_rfl) (by decide +kernel) (by rfl) (fun _ _ _ h => h) (Or.inl ⟨by rfl, ?y3⟩) (ph_one (by kernel_rfl) hS1) ?r3
  case y3 => (intro w hSw; (try dsimp only at hSw); obtain ⟨x0, x1, x2, x3, x4, x5, x6, x7, x8, x9, x10, x11, x12, x13, x14, x15, x16, x17, x18⟩ := HCELLS.out _ hSw; go_simp; try (with_reducible rfl))
  try simp only [pts]
  refine AnyTwo.takeAny HT12 (i := 5) (oi := ⟨some 42, _, _, _, _, _⟩) (v := ?v5) rfl (by kernel_rfl) (by kernel_rfl) (by decide +kernel) (by rfl) (fun _ _ _ h => h) (Or.inl ⟨by rfl, ?y5⟩) (ph_one (by kernel_rfl) hS1) ?r5
  case y5 => (intro w hSw; (try dsimp only at hSw); obtain ⟨x0, x1, x2, x3, x4, x5, x6, x7, x8, x9, x10, x11, x12, x13, x14, x15, x16, x17, x18⟩ := HCELLS.out _ hSw; go_simp; try (with_reducible rfl))
  try simp only [pts]
  refine AnyTwo.takeAny HT12 (i := 6) (oi := ⟨some 43, _, _, _, _, _⟩) (v := ?v6) rfl (by kernel_rfl) (by kernel_rfl) (by decide +kernel) (by rfl) (fun _ _ _ h => h) (Or.inl ⟨by rfl, ?y6⟩) (ph_one (by kernel_rfl) hS1) ?r6
  case y6 => (intro w hSw; (try dsimp only at hSw); obtain ⟨x0, x1, x2, x3, x4, x5, x6, x7, x8, x9, x10, x11, x12, x13, x14, x15, x16, x17, x18⟩ := HCELLS.out _ hSw; go_simp; try (with_reducible rfl))
  try simp only [pts]
  refine AnyTwo.takeAny HT12 (i := 7) (oi := ⟨some 44, _, _, _, _, _⟩) (v := ?v7) rfl (by kernel_rfl) (by kernel_rfl) (by decide +kernel) (by rfl) (fun _ _ _ h => h) (Or.inl ⟨by rfl, ?y7⟩) (ph_one (by kernel_rfl) hS1) ?r7
  case y7 => (intro w hSw; (try dsimp only at hSw); obtain ⟨x0, x1, x2, x3, x4, x5, x6, x7, x8, x9, x10, x11, x12, x13, x14, x15, x16, x17, x18⟩ := HCELLS.out _ hSw; go_simp; try (with_reducible rfl))
  try simp only [pts]
  refine AnyTwo.takeAny HT12 (i := 8) (oi := ⟨some 45, _, _, _, _, _⟩) (v := ?v8) rfl (by kernel_rfl) (by kernel_rfl) (by decide +kernel) (by rfl) (fun _ _ _ h => h) (Or.inl ⟨by rfl, ?y8⟩) (ph_one (by kernel_rfl) hS1) ?r8
  case y8 => (intro w hSw; (try dsimp only at hSw); obtain ⟨x0, x1, x2, x3, x4, x5, x6, x7, x8, x9, x10, x11, x12, x13, x14, x15, x16, x17, x18⟩ := HCELLS.out _ hSw; go_simp; try (with_reducible rfl))
  try simp only [pts]
  refine AnyTwo.takeAny HT12 (i := 10) (oi := ⟨some 47, _, _, _, _, _⟩) (v := ?v10) rfl (by kernel_rfl) (by kernel_rfl) (by decide +kernel) (by rfl) (fun _ _ _ h => h) (Or.inl ⟨by rfl, ?y10⟩) (ph_one (by kernel_rfl) hS1) ?r10
  case y10 => (intro w hSw; (try dsimp only at hSw); obtain ⟨x0, x1, x2, x3, x4, x5, x6, x7, x8, x9, x10, x11, x12, x13, x14, x15, x16, x17, x18⟩ := HCELLS.out _ hSw; go_simp; try (with_reducible rfl))
  try simp only [pts]
  refine AnyTwo.takeAny HT12 (i := 11) (oi := ⟨some 48, _, _, _, _, _⟩) (v := ?v11) rfl (by kernel_rfl) (by kernel_rfl) (by decide +kernel) (by rfl) (fun _ _ _ h => h) (Or.inl ⟨by rfl, ?y11⟩) (ph_one (by kernel_rfl) hS1) ?r11
  case y11 => (intro w hSw; (try dsimp only at hSw); obtain ⟨x0, x1, x2, x3, x4, x5, x6, x7, x8, x9, x10, x11, x12, x13, x14, x15, x16, x17, x18⟩ := HCELLS.out _ hSw; go_simp; try (with_reducible rfl))
  try simp only [pts]
  refine AnyTwo.takeAny HT12 (i := 12) (oi := ⟨some 49, _, _, _, _, _⟩) (v := ?v12) rfl (by kernel_rfl) (by kernel_rfl) (by decide +kernel) (by rfl) (fun _ _ _ h => h) (Or.inl ⟨by rfl, ?y12⟩) (ph_one (by kernel_rfl) hS1) ?r12
  case y12 => (intro w hSw; (try dsimp only at hSw); obtain ⟨x0, x1, x2, x3, x4, x5, x6, x7, x8, x9, x10, x11, x12, x13, x14, x15, x16, x17, x18⟩ := HCELLS.out _ hSw; go_simp; try (with_reducible rfl))
  try simp only [pts]
  refine AnyTwo.takeAny HT12 (i := 13) (oi := ⟨some 50, _, _, _, _, _⟩) (v := ?v13) rfl (by kernel_rfl) (by kernel_rfl) (by decide +kernel) (by rfl) (fun _ _ _ h => h) (Or.inl ⟨by rfl, ?y13⟩) (ph_one (by kernel_rfl) hS1) ?r13
  case y13 => (intro w hSw; (try dsimp only at hSw); obtain ⟨x0, x1, x2, x3, x4, x5, x6, x7, x8, x9, x10, x11, x12, x13, x14, x15, x16, x17, x18⟩ := HCELLS.out _ hSw; go_simp; try (with_reducible rfl))
  try simp only [pts]
  refine AnyTwo.takeAny HT12 (i := 15) (oi := ⟨some 52, _, _, _, _, _⟩) (v := ?v15) rfl (by kernel_rfl) (by kernel_rfl) (by decide +kernel) (by rfl) (fun _ _ _ h => h) (Or.inl ⟨by rfl, ?y15⟩) (ph_one (by kernel_rfl) hS1) ?r15
  case y15 => (intro w hSw; (try dsimp only at hSw); obtain ⟨x0, x1, x2, x3, x4, x5, x6, x7, x8, x9, x10, x11, x12, x13, x14, x15, x16, x17, x18⟩ := HCELLS.out _ hSw; go_simp; try (with_reducible rfl))
  try simp only [pts]
  clear HT12
  generalize W2.drew = v0 at *
  refine AnyTwo.fork (i := 4) (j := 19) (o := ⟨some 41, _, _, _, _, _⟩) (o' := ⟨some 4, _, _, _, _, _⟩) (by kernel_rfl) rfl rfl (fun K hK => ?_) (fun K hK => ?_)
  ·skip
   go_simp
   refine (HCP.out _ hS1.1).mono ?_
   rintro e' v4 ⟨hb2, raP, rcP, rfl, hs2⟩
   have HXP := tuck (SlX.of_sl (X := (fun i => i < w.heap.size + 2)) hs2 (fun i hi => Nat.lt_of_lt_of_le hi HLE.out))
   have hS1' : (fun w' : World => Below w.heap.size w w' ∧ VarAt w.heap.size 9 t.num (.slice (some ⟨b, o, none⟩) 4 cap) w' ∧ VarAt gN B.kind B.num (.slice p0 B.kids.length q0) w') v4 := ⟨bAfter hS1.1 hb2, hS1.2.1.below hb2, hS1.2.2.below hb2⟩
   refine hK.out _ _ (ph_one (by kernel_rfl) hS1') ?_
   clear hK K
   try simp only [pts]
   replace HZ2 := tuck (HZ2.out.below hb2)
   replace HLE := tuck (Nat.le_trans HLE.out hb2.size)
   clear hb2 hs2
   clear hS1
   have hS1 := hS1'
   clear hS1'
   refine AnyTwo.fork (i := 9) (j := 19) (o := ⟨some 46, _, _, _, _, _⟩) (o' := ⟨some 4, _, _, _, _, _⟩) (by kernel_rfl) rfl rfl (fun K hK => ?_) (fun K hK => ?_)
   ·skip
    go_simp
    refine (HCZ.out _ hS1.1).mono ?_
    rintro e' v9 ⟨hb2, raZ, rcZ, rfl, hs2⟩
    have HXZ := tuck (SlX.of_sl (X := (fun i => i < w.heap.size + 2)) hs2 (fun i hi => Nat.lt_of_lt_of_le hi HLE.out))
    have hS1' : (fun w' : World => Below w.heap.size w w' ∧ VarAt w.heap.size 9 t.num (.slice (some ⟨b, o, none⟩) 4 cap) w' ∧ VarAt gN B.kind B.num (.slice p0 B.kids.length q0) w') v9 := ⟨bAfter hS1.1 hb2, hS1.2.1.below hb2, hS1.2.2.below hb2⟩
    refine hK.out _ _ (ph_one (by kernel_rfl) hS1') ?_
    clear hK K
    try simp only [pts]
    replace HXP := tuck (HXP.out.below hb2)
    replace HZ2 := tuck (HZ2.out.below hb2)
    replace HLE := tuck (Nat.le_trans HLE.out hb2.size)
    clear hb2 hs2
    clear hS1
    have hS1 := hS1'
    clear hS1'
    refine AnyTwo.fork (i := 14) (j := 19) (o := ⟨some 51, _, _, _, _, _⟩) (o' := ⟨some 4, _, _, _, _, _⟩) (by kernel_rfl) rfl rfl (fun K hK => ?_) (fun K hK => ?_)
    ·skip
     go_simp
     refine (HCS.out _ hS1.1).mono ?_
     rintro e' v14 ⟨hb2, raS, rcS, rfl, hs2⟩
     have HXS := tuck (SlX.of_sl (X := (fun i => i < w.heap.size + 2)) hs2 (fun i hi => Nat.lt_of_lt_of_le hi HLE.out))
     have hS1' : (fun w' : World => Below w.heap.size w w' ∧ VarAt w.heap.size 9 t.num (.slice (some ⟨b, o, none⟩) 4 cap) w' ∧ VarAt gN B.kind B.num (.slice p0 B.kids.length q0) w') v14 := ⟨bAfter hS1.1 hb2, hS1.2.1.below hb2, hS1.2.2.below hb2⟩
     refine hK.out _ _ (ph_one (by kernel_rfl) hS1') ?_
     clear hK K
     try simp only [pts]
     replace HXP := tuck (HXP.out.below hb2)
     replace HXZ := tuck (HXZ.out.below hb2)
     replace HZ2 := tuck (HZ2.out.below hb2)
     replace HLE := tuck (Nat.le_trans HLE.out hb2.size)
     clear hb2 hs2
     clear hS1
     have hS1 := hS1'
     clear hS1'
     refine AnyTwo.fork (i := 16) (j := 19) (o := ⟨some 53, _, _, _, _, _⟩) (o' := ⟨some 4, _, _, _, _, _⟩) (by kernel_rfl) rfl rfl (fun K hK => ?_) (fun K hK => ?_)
     ·skip
      go_simp
      refine (HCB.out _ hS1.1).mono ?_
      rintro e' v16 ⟨hb2, raB, rcB, rfl, hs2⟩
      have HXB := tuck (SlX.of_sl (X := (fun i => i < w.heap.size + 2)) hs2 (fun i hi => Nat.lt_of_lt_of_le hi HLE.out))
      have hS1' : (fun w' : World => Below w.heap.size w w' ∧ VarAt w.heap.size 9 t.num (.slice (some ⟨b, o, none⟩) 4 cap) w' ∧ VarAt gN B.kind B.num (.slice p0 B.kids.length q0) w') v16 := ⟨bAfter hS1.1 hb2, hS1.2.1.below hb2, hS1.2.2.below hb2⟩
      refine hK.out _ _ (ph_one (by kernel_rfl) hS1') ?_
      clear hK K
      try simp only [pts]
      replace HXP := tuck (HXP.out.below hb2)
      replace HXZ := tuck (HXZ.out.below hb2)
      replace HXS := tuck (HXS.out.below hb2)
      replace HZ2 := tuck (HZ2.out.below hb2)
      replace HLE := tuck (Nat.le_trans HLE.out hb2.size)
      clear hb2 hs2
      clear hS1
      have hS1 := hS1'
      clear hS1'
      refine AnyTwo.fork (i := 17) (j := 19) (o := ⟨some 54, _, _, _, _, _⟩) (o' := ⟨some 4, _, _, _, _, _⟩) (by kernel_rfl) rfl rfl (fun K hK => ?_) (fun K hK => ?_)
      ·skip
       go_simp
       have hb2 := below1 v16 (.cells #[.int .i64 P.kind, .int .i64 P.num, .slice raP P.kids.length rcP, .int .i64 Z.kind, .int .i64 Z.num, .slice raZ Z.kids.length rcZ, .int .i64 S.kind, .int .i64 S.num, .slice raS S.kids.length rcS, .int .i64 B.kind, .int .i64 B.num, .slice raB B.kids.length rcB] 25)
       have HRB := tuck (heap_new v16 (.cells #[.int .i64 P.kind, .int .i64 P.num, .slice raP P.kids.length rcP, .int .i64 Z.kind, .int .i64 Z.num, .slice raZ Z.kids.length rcZ, .int .i64 S.kind, .int .i64 S.num, .slice raS S.kids.length rcS, .int .i64 B.kind, .int .i64 B.num, .slice raB B.kids.length rcB] 25))
       have hS1' : (fun w' : World => Below w.heap.size w w' ∧ VarAt w.heap.size 9 t.num (.slice (some ⟨b, o, none⟩) 4 cap) w' ∧ VarAt gN B.kind B.num (.slice p0 B.kids.length q0) w') (v16.alloc (.cells #[.int .i64 P.kind, .int .i64 P.num, .slice raP P.kids.length rcP, .int .i64 Z.kind, .int .i64 Z.num, .slice raZ Z.kids.length rcZ, .int .i64 S.kind, .int .i64 S.num, .slice raS S.kids.length rcS, .int .i64 B.kind, .int .i64 B.num, .slice raB B.kids.length rcB] 25)) := ⟨bAfter hS1.1 hb2, hS1.2.1.below hb2, hS1.2.2.below hb2⟩
       refine hK.out _ _ (ph_one (by kernel_rfl) hS1') ?_
       clear hK K
       try simp only [pts]
       replace HXP := tuck (HXP.out.below hb2)
       replace HXZ := tuck (HXZ.out.below hb2)
       replace HXS := tuck (HXS.out.below hb2)
       replace HXB := tuck (HXB.out.below hb2)
       replace HZ2 := tuck (HZ2.out.below hb2)
       replace HLE := tuck (Nat.le_trans HLE.out hb2.size)
       clear hb2
       generalize v16.alloc (.cells #[.int .i64 P.kind, .int .i64 P.num, .slice raP P.kids.length rcP, .int .i64 Z.kind, .int .i64 Z.num, .slice raZ Z.kids.length rcZ, .int .i64 S.kind, .int .i64 S.num, .slice raS S.kids.length rcS, .int .i64 B.kind, .int .i64 B.num, .slice raB B.kids.length rcB] 25) = v17 at *
       generalize v16.heap.size = gR at *
       clear hS1
       have hS1 := hS1'
       clear hS1'
       refine AnyTwo.fork (i := 18) (j := 19) (o := ⟨some 55, _, _, _, _, _⟩) (o' := ⟨some 4, _, _, _, _, _⟩) (by kernel_rfl) rfl rfl (fun K hK => ?_) (fun K hK => ?_)
       ·skip
        go_simp
        refine (nodeX_any 9 [(P, .slice raP P.kids.length rcP), (Z, .slice raZ Z.kids.length rcZ), (S, .slice raS S.kids.length rcS), (B, .slice raB B.kids.length rcB)] _ gR 4 _ _ (fun i => i < w.heap.size + 2) (fun i hi => Nat.lt_of_lt_of_le hi HLE.out) (by simp) (by simp) HRB.out (by simp [cellsL, Tm.kind, Tm.num]) (fun x hx => by
         simp only [List.mem_cons, List.not_mem_nil, or_false] at hx
         rcases hx with rfl | rfl | rfl | rfl
         ·exact HXP.out
         ·exact HXZ.out
         ·exact HXS.out
         ·exact HXB.out)).mono ?_
        rintro e' v18 ⟨hb2, raR, rcR, he, hs6⟩
        have he' : e' = .returned (.agg #[.int .i64 9, .int .i64 0, .slice raR 4 rcR]) := he
        subst he'
        have HXR : Hid (SlX v18 (fun i => i < w.heap.size + 2) [P, Z, S, B] (.slice raR 4 rcR)) := tuck hs6
        have hS1' : (fun w' : World => Below w.heap.size w w' ∧ VarAt w.heap.size 9 t.num (.slice (some ⟨b, o, none⟩) 4 cap) w' ∧ VarAt gN B.kind B.num (.slice p0 B.kids.length q0) w') v18 := ⟨bAfter hS1.1 hb2, hS1.2.1.below hb2, hS1.2.2.below hb2⟩
        refine hK.out _ _ (ph_one (by kernel_rfl) hS1') ?_
        clear hK K
        try simp only [pts]
        replace HZ2 := tuck (HZ2.out.below hb2)
        replace HLE := tuck (Nat.le_trans HLE.out hb2.size)
        clear hb2 hs6 he HRB
        clear hS1
        have hS1 := hS1'
        clear hS1'
        clear HXP HXZ HXS HXB
        refine AnyTwo.step (i := 19) (o := ⟨some 4, _, _, _, _, _⟩) (by kernel_rfl) rfl (fun K hK => ?_)
        go_simp
        have hb2 := below1 v18 (.cells #[.int .i64 0, .int .i64 0, .slice none 0 0] 25)
        have V4 := tuck (VarAt.new v18 0 0 (.slice none 0 0))
        have HG4 : Hid (w.heap.size + 2 ≤ v18.heap.size ∧ gN < v18.heap.size) := tuck ⟨HLE.out, hS1.2.2.facts.1⟩
        have hS1' : (fun w' : World => Below w.heap.size w w' ∧ VarAt w.heap.size 9 t.num (.slice (some ⟨b, o, none⟩) 4 cap) w' ∧ VarAt gN B.kind B.num (.slice p0 B.kids.length q0) w') (v18.alloc (.cells #[.int .i64 0, .int .i64 0, .slice none 0 0] 25)) := ⟨bAfter hS1.1 hb2, hS1.2.1.below hb2, hS1.2.2.below hb2⟩
        refine hK.out _ _ (ph_one (by kernel_rfl) hS1') ?_
        clear hK K
        try simp only [pts]
        replace HXR := tuck (HXR.out.lay (.cells #[.int .i64 0, .int .i64 0, .slice none 0 0] 25))
        replace HZ2 := tuck (HZ2.out.below hb2)
        replace HLE := tuck (Nat.le_trans HLE.out hb2.size)
        clear hb2
        generalize v18.alloc (.cells #[.int .i64 0, .int .i64 0, .slice none 0 0] 25) = v19 at *
        generalize v18.heap.size = g4 at *
        clear hS1
        have hS1 := hS1'
        clear hS1'
        obtain ⟨z4, f0, f1, f2, ff⟩ := V4.out.facts
        have q1 : w.heap.size ≠ g4 := by have := HG4.out.1; omega
        have q2 : gN ≠ g4 := by have := HG4.out.2; omega
        have q3 : w.heap.size + 1 ≠ g4 := by have := HG4.out.1; omega
        refine AnyTwo.step (i := 20) (o := ⟨none, _, _, _, _, _⟩) (by kernel_rfl) rfl (fun K hK => ?_)
        go_simp
        have hS1' : (fun w' : World => Below w.heap.size w w' ∧ VarAt w.heap.size 9 t.num (.slice (some ⟨b, o, none⟩) 4 cap) w' ∧ VarAt gN B.kind B.num (.slice p0 B.kids.length q0) w') _ := ⟨bSet3 hS1.1 (by have := HG4.out.1; omega) 0 1 2 (.int .i64 9) (.int .i64 0) (.slice raR 4 rcR), hS1.2.1.far3 q1 0 1 2 (.int .i64 9) (.int .i64 0) (.slice raR 4 rcR), hS1.2.2.far3 q2 0 1 2 (.int .i64 9) (.int .i64 0) (.slice raR 4 rcR)⟩
        refine hK.out _ _ (ph_end (by kernel_rfl) hS1') ?_
        clear hK K
        clear f0 f1 f2 ff
        refine AnyTwo.done (by kernel_rfl) ?_ _
        go_wp2_with fail
        go_meet
        exact ⟨g4, raR, rcR, rfl, hS1'.1, hS1'.2.1, hS1'.2.2, V4.out.set, (HXR.out.put (Or.inr rfl) _ _ _ _ _ _).less (fun i hi => Or.inl hi), by rw [size_set3]; exact HLE.out, HZ2.out.far3 q3 _ _ _ _ _ _, HG4.out.1⟩
       ·skip
        go_simp
        have hb2 := below1 v17 (.cells #[.int .i64 0, .int .i64 0, .slice none 0 0] 25)
        have V4 := tuck (VarAt.new v17 0 0 (.slice none 0 0))
        have HG4 : Hid (w.heap.size + 2 ≤ v17.heap.size ∧ gN < v17.heap.size) := tuck ⟨HLE.out, hS1.2.2.facts.1⟩
        have hS1' : (fun w' : World => Below w.heap.size w w' ∧ VarAt w.heap.size 9 t.num (.slice (some ⟨b, o, none⟩) 4 cap) w' ∧ VarAt gN B.kind B.num (.slice p0 B.kids.length q0) w') (v17.alloc (.cells #[.int .i64 0, .int .i64 0, .slice none 0 0] 25)) := ⟨bAfter hS1.1 hb2, hS1.2.1.below hb2, hS1.2.2.below hb2⟩
        refine hK.out _ _ (ph_one (by kernel_rfl) hS1') ?_
        clear hK K
        try simp only [pts]
        replace HXP := tuck (HXP.out.lay (.cells #[.int .i64 0, .int .i64 0, .slice none 0 0] 25))
        replace HXZ := tuck (HXZ.out.lay (.cells #[.int .i64 0, .int .i64 0, .slice none 0 0] 25))
        replace HXS := tuck (HXS.out.lay (.cells #[.int .i64 0, .int .i64 0, .slice none 0 0] 25))
        replace HXB := tuck (HXB.out.lay (.cells #[.int .i64 0, .int .i64 0, .slice none 0 0] 25))
        replace HRB := tuck ((hb2.block _ (block_of_cells HRB.out).1).trans HRB.out)
        replace HZ2 := tuck (HZ2.out.below hb2)
        replace HLE := tuck (Nat.le_trans HLE.out hb2.size)
        clear hb2
        generalize v17.alloc (.cells #[.int .i64 0, .int .i64 0, .slice none 0 0] 25) = v19 at *
        generalize v17.heap.size = g4 at *
        clear hS1
        have hS1 := hS1'
        clear hS1'
        refine AnyTwo.step (i := 18) (o := ⟨some 55, _, _, _, _, _⟩) (by kernel_rfl) rfl (fun K hK => ?_)
        go_simp
        refine (nodeX_any 9 [(P, .slice raP P.kids.length rcP), (Z, .slice raZ Z.kids.length rcZ), (S, .slice raS S.kids.length rcS), (B, .slice raB B.kids.length rcB)] _ gR 4 _ _ (fun i => i < w.heap.size + 2 ∨ i = g4) (fun i hi => by
         rcases hi with hi | rfl
         ·exact Nat.lt_of_lt_of_le hi HLE.out
         ·exact V4.out.facts.1) (by simp) (by simp) HRB.out (by simp [cellsL, Tm.kind, Tm.num]) (fun x hx => by
         simp only [List.mem_cons, List.not_mem_nil, or_false] at hx
         rcases hx with rfl | rfl | rfl | rfl
         ·exact HXP.out
         ·exact HXZ.out
         ·exact HXS.out
         ·exact HXB.out)).mono ?_
        rintro e' v18 ⟨hb2, raR, rcR, he, hs6⟩
        have he' : e' = .returned (.agg #[.int .i64 9, .int .i64 0, .slice raR 4 rcR]) := he
        subst he'
        have HXR : Hid (SlX v18 (fun i => i < w.heap.size + 2 ∨ i = g4) [P, Z, S, B] (.slice raR 4 rcR)) := tuck hs6
        have hS1' : (fun w' : World => Below w.heap.size w w' ∧ VarAt w.heap.size 9 t.num (.slice (some ⟨b, o, none⟩) 4 cap) w' ∧ VarAt gN B.kind B.num (.slice p0 B.kids.length q0) w') v18 := ⟨bAfter hS1.1 hb2, hS1.2.1.below hb2, hS1.2.2.below hb2⟩
        refine hK.out _ _ (ph_one (by kernel_rfl) hS1') ?_
        clear hK K
        try simp only [pts]
        replace HZ2 := tuck (HZ2.out.below hb2)
        replace HLE := tuck (Nat.le_trans HLE.out hb2.size)
        replace V4 := tuck (V4.out.below hb2)
        clear hb2 hs6 he HRB
        clear hS1
        have hS1 := hS1'
        clear hS1'
        clear HXP HXZ HXS HXB
        obtain ⟨z4, f0, f1, f2, ff⟩ := V4.out.facts
        have q1 : w.heap.size ≠ g4 := by have := HG4.out.1; omega
        have q2 : gN ≠ g4 := by have := HG4.out.2; omega
        have q3 : w.heap.size + 1 ≠ g4 := by have := HG4.out.1; omega
        refine AnyTwo.step (i := 20) (o := ⟨none, _, _, _, _, _⟩) (by kernel_rfl) rfl (fun K hK => ?_)
        go_simp
        have hS1' : (fun w' : World => Below w.heap.size w w' ∧ VarAt w.heap.size 9 t.num (.slice (some ⟨b, o, none⟩) 4 cap) w' ∧ VarAt gN B.kind B.num (.slice p0 B.kids.length q0) w') _ := ⟨bSet3 hS1.1 (by have := HG4.out.1; omega) 0 1 2 (.int .i64 9) (.int .i64 0) (.slice raR 4 rcR), hS1.2.1.far3 q1 0 1 2 (.int .i64 9) (.int .i64 0) (.slice raR 4 rcR), hS1.2.2.far3 q2 0 1 2 (.int .i64 9) (.int .i64 0) (.slice raR 4 rcR)⟩
        refine hK.out _ _ (ph_end (by kernel_rfl) hS1') ?_
        clear hK K
        clear f0 f1 f2 ff
        refine AnyTwo.done (by kernel_rfl) ?_ _
        go_wp2_with fail
        go_meet
        exact ⟨g4, raR, rcR, rfl, hS1'.1, hS1'.2.1, hS1'.2.2, V4.out.set, (HXR.out.put (Or.inr rfl) _ _ _ _ _ _).less (fun i hi => Or.inl hi), by rw [size_set3]; exact HLE.out, HZ2.out.far3 q3 _ _ _ _ _ _, HG4.out.1⟩
      ·skip
       go_simp
       have hb2 := below1 v16 (.cells #[.int .i64 0, .int .i64 0, .slice none 0 0] 25)
       have V4 := tuck (VarAt.new v16 0 0 (.slice none 0 0))
       have HG4 : Hid (w.heap.size + 2 ≤ v16.heap.size ∧ gN < v16.heap.size) := tuck ⟨HLE.out, hS1.2.2.facts.1⟩
       have hS1' : (fun w' : World => Below w.heap.size w w' ∧ VarAt w.heap.size 9 t.num (.slice (some ⟨b, o, none⟩) 4 cap) w' ∧ VarAt gN B.kind B.num (.slice p0 B.kids.length q0) w') (v16.alloc (.cells #[.int .i64 0, .int .i64 0, .slice none 0 0] 25)) := ⟨bAfter hS1.1 hb2, hS1.2.1.below hb2, hS1.2.2.below hb2⟩
       refine hK.out _ _ (ph_one (by kernel_rfl) hS1') ?_
       clear hK K
       try simp only [pts]
       replace HXP := tuck (HXP.out.lay (.cells #[.int .i64 0, .int .i64 0, .slice none 0 0] 25))
       replace HXZ := tuck (HXZ.out.lay (.cells #[.int .i64 0, .int .i64 0, .slice none 0 0] 25))
       replace HXS := tuck (HXS.out.lay (.cells #[.int .i64 0, .int .i64 0, .slice none 0 0] 25))
       replace HXB := tuck (HXB.out.lay (.cells #[.int .i64 0, .int .i64 0, .slice none 0 0] 25))
       replace HZ2 := tuck (HZ2.out.below hb2)
       replace HLE := tuck (Nat.le_trans HLE.out hb2.size)
       clear hb2
       generalize v16.alloc (.cells #[.int .i64 0, .int .i64 0, .slice none 0 0] 25) = v19 at *
       generalize v16.heap.size = g4 at *
       clear hS1
       have hS1 := hS1'
       clear hS1'
       refine AnyTwo.step (i := 17) (o := ⟨some 54, _, _, _, _, _⟩) (by kernel_rfl) rfl (fun K hK => ?_)
       go_simp
       have hb2 := below1 v19 (.cells #[.int .i64 P.kind, .int .i64 P.num, .slice raP P.kids.length rcP, .int .i64 Z.kind, .int .i64 Z.num, .slice raZ Z.kids.length rcZ, .int .i64 S.kind, .int .i64 S.num, .slice raS S.kids.length rcS, .int .i64 B.kind, .int .i64 B.num, .slice raB B.kids.length rcB] 25)
       have HRB := tuck (heap_new v19 (.cells #[.int .i64 P.kind, .int .i64 P.num, .slice raP P.kids.length rcP, .int .i64 Z.kind, .int .i64 Z.num, .slice raZ Z.kids.length rcZ, .int .i64 S.kind, .int .i64 S.num, .slice raS S.kids.length rcS, .int .i64 B.kind, .int .i64 B.num, .slice raB B.kids.length rcB] 25))
       have hS1' : (fun w' : World => Below w.heap.size w w' ∧ VarAt w.heap.size 9 t.num (.slice (some ⟨b, o, none⟩) 4 cap) w' ∧ VarAt gN B.kind B.num (.slice p0 B.kids.length q0) w') (v19.alloc (.cells #[.int .i64 P.kind, .int .i64 P.num, .slice raP P.kids.length rcP, .int .i64 Z.kind, .int .i64 Z.num, .slice raZ Z.kids.length rcZ, .int .i64 S.kind, .int .i64 S.num, .slice raS S.kids.length rcS, .int .i64 B.kind, .int .i64 B.num, .slice raB B.kids.length rcB] 25)) := ⟨bAfter hS1.1 hb2, hS1.2.1.below hb2, hS1.2.2.below hb2⟩
       refine hK.out _ _ (ph_one (by kernel_rfl) hS1') ?_
       clear hK K
       try simp only [pts]
       replace HXP := tuck (HXP.out.below hb2)
       replace HXZ := tuck (HXZ.out.below hb2)
       replace HXS := tuck (HXS.out.below hb2)
       replace HXB := tuck (HXB.out.below hb2)
       replace HZ2 := tuck (HZ2.out.below hb2)
       replace HLE := tuck (Nat.le_trans HLE.out hb2.size)
       replace V4 := tuck (V4.out.below hb2)
       clear hb2
       generalize v19.alloc (.cells #[.int .i64 P.kind, .int .i64 P.num, .slice raP P.kids.length rcP, .int .i64 Z.kind, .int .i64 Z.num, .slice raZ Z.kids.length rcZ, .int .i64 S.kind, .int .i64 S.num, .slice raS S.kids.length rcS, .int .i64 B.kind, .int .i64 B.num, .slice raB B.kids.length rcB] 25) = v17 at *
       generalize v19.heap.size = gR at *
       clear hS1
       have hS1 := hS1'
       clear hS1'
       refine AnyTwo.step (i := 18) (o := ⟨some 55, _, _, _, _, _⟩) (by kernel_rfl) rfl (fun K hK => ?_)
       go_simp
       refine (nodeX_any 9 [(P, .slice raP P.kids.length rcP), (Z, .slice raZ Z.kids.length rcZ), (S, .slice raS S.kids.length rcS), (B, .slice raB B.kids.length rcB)] _ gR 4 _ _ (fun i => i < w.heap.size + 2 ∨ i = g4) (fun i hi => by
        rcases hi with hi | rfl
        ·exact Nat.lt_of_lt_of_le hi HLE.out
        ·exact V4.out.facts.1) (by simp) (by simp) HRB.out (by simp [cellsL, Tm.kind, Tm.num]) (fun x hx => by
        simp only [List.mem_cons, List.not_mem_nil, or_false] at hx
        rcases hx with rfl | rfl | rfl | rfl
        ·exact HXP.out
        ·exact HXZ.out
        ·exact HXS.out
        ·exact HXB.out)).mono ?_
       rintro e' v18 ⟨hb2, raR, rcR, he, hs6⟩
       have he' : e' = .returned (.agg #[.int .i64 9, .int .i64 0, .slice raR 4 rcR]) := he
       subst he'
       have HXR : Hid (SlX v18 (fun i => i < w.heap.size + 2 ∨ i = g4) [P, Z, S, B] (.slice raR 4 rcR)) := tuck hs6
       have hS1' : (fun w' : World => Below w.heap.size w w' ∧ VarAt w.heap.size 9 t.num (.slice (some ⟨b, o, none⟩) 4 cap) w' ∧ VarAt gN B.kind B.num (.slice p0 B.kids.length q0) w') v18 := ⟨bAfter hS1.1 hb2, hS1.2.1.below hb2, hS1.2.2.below hb2⟩
       refine hK.out _ _ (ph_one (by kernel_rfl) hS1') ?_
       clear hK K
       try simp only [pts]
       replace HZ2 := tuck (HZ2.out.below hb2)
       replace HLE := tuck (Nat.le_trans HLE.out hb2.size)
       replace V4 := tuck (V4.out.below hb2)
       clear hb2 hs6 he HRB
       clear hS1
       have hS1 := hS1'
       clear hS1'
       clear HXP HXZ HXS HXB
       obtain ⟨z4, f0, f1, f2, ff⟩ := V4.out.facts
       have q1 : w.heap.size ≠ g4 := by have := HG4.out.1; omega
       have q2 : gN ≠ g4 := by have := HG4.out.2; omega
       have q3 : w.heap.size + 1 ≠ g4 := by have := HG4.out.1; omega
       refine AnyTwo.step (i := 20) (o := ⟨none, _, _, _, _, _⟩) (by kernel_rfl) rfl (fun K hK => ?_)
       go_simp
       have hS1' : (fun w' : World => Below w.heap.size w w' ∧ VarAt w.heap.size 9 t.num (.slice (some ⟨b, o, none⟩) 4 cap) w' ∧ VarAt gN B.kind B.num (.slice p0 B.kids.length q0) w') _ := ⟨bSet3 hS1.1 (by have := HG4.out.1; omega) 0 1 2 (.int .i64 9) (.int .i64 0) (.slice raR 4 rcR), hS1.2.1.far3 q1 0 1 2 (.int .i64 9) (.int .i64 0) (.slice raR 4 rcR), hS1.2.2.far3 q2 0 1 2 (.int .i64 9) (.int .i64 0) (.slice raR 4 rcR)⟩
       refine hK.out _ _ (ph_end (by kernel_rfl) hS1') ?_
       clear hK K
       clear f0 f1 f2 ff
       refine AnyTwo.done (by kernel_rfl) ?_ _
       go_wp2_with fail
       go_meet
       exact ⟨g4, raR, rcR, rfl, hS1'.1, hS1'.2.1, hS1'.2.2, V4.out.set, (HXR.out.put (Or.inr rfl) _ _ _ _ _ _).less (fun i hi => Or.inl hi), by rw [size_set3]; exact HLE.out, HZ2.out.far3 q3 _ _ _ _ _ _, HG4.out.1⟩
     ·skip
      go_simp
      have hb2 := below1 v14 (.cells #[.int .i64 0, .int .i64 0, .slice none 0 0] 25)
      have V4 := tuck (VarAt.new v14 0 0 (.slice none 0 0))
      have HG4 : Hid (w.heap.size + 2 ≤ v14.heap.size ∧ gN < v14.heap.size) := tuck ⟨HLE.out, hS1.2.2.facts.1⟩
      have hS1' : (fun w' : World => Below w.heap.size w w' ∧ VarAt w.heap.size 9 t.num (.slice (some ⟨b, o, none⟩) 4 cap) w' ∧ VarAt gN B.kind B.num (.slice p0 B.kids.length q0) w') (v14.alloc (.cells #[.int .i64 0, .int .i64 0, .slice none 0 0] 25)) := ⟨bAfter hS1.1 hb2, hS1.2.1.below hb2, hS1.2.2.below hb2⟩
      refine hK.out _ _ (ph_one (by kernel_rfl) hS1') ?_
      clear hK K
      try simp only [pts]
      replace HXP := tuck (HXP.out.lay (.cells #[.int .i64 0, .int .i64 0, .slice none 0 0] 25))
      replace HXZ := tuck (HXZ.out.lay (.cells #[.int .i64 0, .int .i64 0, .slice none 0 0] 25))
      replace HXS := tuck (HXS.out.lay (.cells #[.int .i64 0, .int .i64 0, .slice none 0 0] 25))
      replace HZ2 := tuck (HZ2.out.below hb2)
      replace HLE := tuck (Nat.le_trans HLE.out hb2.size)
      clear hb2
      generalize v14.alloc (.cells #[.int .i64 0, .int .i64 0, .slice none 0 0] 25) = v19 at *
      generalize v14.heap.size = g4 at *
      clear hS1
      have hS1 := hS1'
      clear hS1'
      refine AnyTwo.step (i := 16) (o := ⟨some 53, _, _, _, _, _⟩) (by kernel_rfl) rfl (fun K hK => ?_)
      go_simp
      refine (HCB.out _ hS1.1).mono ?_
      rintro e' v16 ⟨hb2, raB, rcB, rfl, hs2⟩
      have HXB := tuck (SlX.of_sl (X := (fun i => i < w.heap.size + 2 ∨ i = g4)) hs2 (fun i hi => by
       rcases hi with hi | rfl
       ·exact Nat.lt_of_lt_of_le hi HLE.out
       ·exact V4.out.facts.1))
      have hS1' : (fun w' : World => Below w.heap.size w w' ∧ VarAt w.heap.size 9 t.num (.slice (some ⟨b, o, none⟩) 4 cap) w' ∧ VarAt gN B.kind B.num (.slice p0 B.kids.length q0) w') v16 := ⟨bAfter hS1.1 hb2, hS1.2.1.below hb2, hS1.2.2.below hb2⟩
      refine hK.out _ _ (ph_one (by kernel_rfl) hS1') ?_
      clear hK K
      try simp only [pts]
      replace HXP := tuck (HXP.out.below hb2)
      replace HXZ := tuck (HXZ.out.below hb2)
      replace HXS := tuck (HXS.out.below hb2)
      replace HZ2 := tuck (HZ2.out.below hb2)
      replace HLE := tuck (Nat.le_trans HLE.out hb2.size)
      replace V4 := tuck (V4.out.below hb2)
      clear hb2 hs2
      clear hS1
      have hS1 := hS1'
      clear hS1'
      refine AnyTwo.step (i := 17) (o := ⟨some 54, _, _, _, _, _⟩) (by kernel_rfl) rfl (fun K hK => ?_)
      go_simp
      have hb2 := below1 v16 (.cells #[.int .i64 P.kind, .int .i64 P.num, .slice raP P.kids.length rcP, .int .i64 Z.kind, .int .i64 Z.num, .slice raZ Z.kids.length rcZ, .int .i64 S.kind, .int .i64 S.num, .slice raS S.kids.length rcS, .int .i64 B.kind, .int .i64 B.num, .slice raB B.kids.length rcB] 25)
      have HRB := tuck (heap_new v16 (.cells #[.int .i64 P.kind, .int .i64 P.num, .slice raP P.kids.length rcP, .int .i64 Z.kind, .int .i64 Z.num, .slice raZ Z.kids.length rcZ, .int .i64 S.kind, .int .i64 S.num, .slice raS S.kids.length rcS, .int .i64 B.kind, .int .i64 B.num, .slice raB B.kids.length rcB] 25))
      have hS1' : (fun w' : World => Below w.heap.size w w' ∧ VarAt w.heap.size 9 t.num (.slice (some ⟨b, o, none⟩) 4 cap) w' ∧ VarAt gN B.kind B.num (.slice p0 B.kids.length q0) w') (v16.alloc (.cells #[.int .i64 P.kind, .int .i64 P.num, .slice raP P.kids.length rcP, .int .i64 Z.kind, .int .i64 Z.num, .slice raZ Z.kids.length rcZ, .int .i64 S.kind, .int .i64 S.num, .slice raS S.kids.length rcS, .int .i64 B.kind, .int .i64 B.num, .slice raB B.kids.length rcB] 25)) := ⟨bAfter hS1.1 hb2, hS1.2.1.below hb2, hS1.2.2.below hb2⟩
      refine hK.out _ _ (ph_one (by kernel_rfl) hS1') ?_
      clear hK K
      try simp only [pts]
      replace HXP := tuck (HXP.out.below hb2)
      replace HXZ := tuck (HXZ.out.below hb2)
      replace HXS := tuck (HXS.out.below hb2)
      replace HXB := tuck (HXB.out.below hb2)
      replace HZ2 := tuck (HZ2.out.below hb2)
      replace HLE := tuck (Nat.le_trans HLE.out hb2.size)
      replace V4 := tuck (V4.out.below hb2)
      clear hb2
      generalize v16.alloc (.cells #[.int .i64 P.kind, .int .i64 P.num, .slice raP P.kids.length rcP, .int .i64 Z.kind, .int .i64 Z.num, .slice raZ Z.kids.length rcZ, .int .i64 S.kind, .int .i64 S.num, .slice raS S.kids.length rcS, .int .i64 B.kind, .int .i64 B.num, .slice raB B.kids.length rcB] 25) = v17 at *
      generalize v16.heap.size = gR at *
      clear hS1
      have hS1 := hS1'
      clear hS1'
      refine AnyTwo.step (i := 18) (o := ⟨some 55, _, _, _, _, _⟩) (by kernel_rfl) rfl (fun K hK => ?_)
      go_simp
      refine (nodeX_any 9 [(P, .slice raP P.kids.length rcP), (Z, .slice raZ Z.kids.length rcZ), (S, .slice raS S.kids.length rcS), (B, .slice raB B.kids.length rcB)] _ gR 4 _ _ (fun i => i < w.heap.size + 2 ∨ i = g4) (fun i hi => by
       rcases hi with hi | rfl
       ·exact Nat.lt_of_lt_of_le hi HLE.out
       ·exact V4.out.facts.1) (by simp) (by simp) HRB.out (by simp [cellsL, Tm.kind, Tm.num]) (fun x hx => by
       simp only [List.mem_cons, List.not_mem_nil, or_false] at hx
       rcases hx with rfl | rfl | rfl | rfl
       ·exact HXP.out
       ·exact HXZ.out
       ·exact HXS.out
       ·exact HXB.out)).mono ?_
      rintro e' v18 ⟨hb2, raR, rcR, he, hs6⟩
      have he' : e' = .returned (.agg #[.int .i64 9, .int .i64 0, .slice raR 4 rcR]) := he
      subst he'
      have HXR : Hid (SlX v18 (fun i => i < w.heap.size + 2 ∨ i = g4) [P, Z, S, B] (.slice raR 4 rcR)) := tuck hs6
      have hS1' : (fun w' : World => Below w.heap.size w w' ∧ VarAt w.heap.size 9 t.num (.slice (some ⟨b, o, none⟩) 4 cap) w' ∧ VarAt gN B.kind B.num (.slice p0 B.kids.length q0) w') v18 := ⟨bAfter hS1.1 hb2, hS1.2.1.below hb2, hS1.2.2.below hb2⟩
      refine hK.out _ _ (ph_one (by kernel_rfl) hS1') ?_
      clear hK K
      try simp only [pts]
      replace HZ2 := tuck (HZ2.out.below hb2)
      replace HLE := tuck (Nat.le_trans HLE.out hb2.size)
      replace V4 := tuck (V4.out.below hb2)
      clear hb2 hs6 he HRB
      clear hS1
      have hS1 := hS1'
      clear hS1'
      clear HXP HXZ HXS HXB
      obtain ⟨z4, f0, f1, f2, ff⟩ := V4.out.facts
      have q1 : w.heap.size ≠ g4 := by have := HG4.out.1; omega
      have q2 : gN ≠ g4 := by have := HG4.out.2; omega
      have q3 : w.heap.size + 1 ≠ g4 := by have := HG4.out.1; omega
      refine AnyTwo.step (i := 20) (o := ⟨none, _, _, _, _, _⟩) (by kernel_rfl) rfl (fun K hK => ?_)
      go_simp
      have hS1' : (fun w' : World => Below w.heap.size w w' ∧ VarAt w.heap.size 9 t.num (.slice (some ⟨b, o, none⟩) 4 cap) w' ∧ VarAt gN B.kind B.num (.slice p0 B.kids.length q0) w') _ := ⟨bSet3 hS1.1 (by have := HG4.out.1; omega) 0 1 2 (.int .i64 9) (.int .i64 0) (.slice raR 4 rcR), hS1.2.1.far3 q1 0 1 2 (.int .i64 9) (.int .i64 0) (.slice raR 4 rcR), hS1.2.2.far3 q2 0 1 2 (.int .i64 9) (.int .i64 0) (.slice raR 4 rcR)⟩
      refine hK.out _ _ (ph_end (by kernel_rfl) hS1') ?_
      clear hK K
      clear f0 f1 f2 ff
      refine AnyTwo.done (by kernel_rfl) ?_ _
      go_wp2_with fail
      go_meet
      exact ⟨g4, raR, rcR, rfl, hS1'.1, hS1'.2.1, hS1'.2.2, V4.out.set, (HXR.out.put (Or.inr rfl) _ _ _ _ _ _).less (fun i hi => Or.inl hi), by rw [size_set3]; exact HLE.out, HZ2.out.far3 q3 _ _ _ _ _ _, HG4.out.1⟩
    ·skip
     go_simp
     have hb2 := below1 v9 (.cells #[.int .i64 0, .int .i64 0, .slice none 0 0] 25)
     have V4 := tuck (VarAt.new v9 0 0 (.slice none 0 0))
     have HG4 : Hid (w.heap.size + 2 ≤ v9.heap.size ∧ gN < v9.heap.size) := tuck ⟨HLE.out, hS1.2.2.facts.1⟩
     have hS1' : (fun w' : World => Below w.heap.size w w' ∧ VarAt w.heap.size 9 t.num (.slice (some ⟨b, o, none⟩) 4 cap) w' ∧ VarAt gN B.kind B.num (.slice p0 B.kids.length q0) w') (v9.alloc (.cells #[.int .i64 0, .int .i64 0, .slice none 0 0] 25)) := ⟨bAfter hS1.1 hb2, hS1.2.1.below hb2, hS1.2.2.below hb2⟩
     refine hK.out _ _ (ph_one (by kernel_rfl) hS1') ?_
     clear hK K
     try simp only [pts]
     replace HXP := tuck (HXP.out.lay (.cells #[.int .i64 0, .int .i64 0, .slice none 0 0] 25))
     replace HXZ := tuck (HXZ.out.lay (.cells #[.int .i64 0, .int .i64 0, .slice none 0 0] 25))
     replace HZ2 := tuck (HZ2.out.below hb2)
     replace HLE := tuck (Nat.le_trans HLE.out hb2.size)
     clear hb2
     generalize v9.alloc (.cells #[.int .i64 0, .int .i64 0, .slice none 0 0] 25) = v19 at *
     generalize v9.heap.size = g4 at *
     clear hS1
     have hS1 := hS1'
     clear hS1'
     refine AnyTwo.step (i := 14) (o := ⟨some 51, _, _, _, _, _⟩) (by kernel_rfl) rfl (fun K hK => ?_)
     go_simp
     refine (HCS.out _ hS1.1).mono ?_
     rintro e' v14 ⟨hb2, raS, rcS, rfl, hs2⟩
     have HXS := tuck (SlX.of_sl (X := (fun i => i < w.heap.size + 2 ∨ i = g4)) hs2 (fun i hi => by
      rcases hi with hi | rfl
      ·exact Nat.lt_of_lt_of_le hi HLE.out
      ·exact V4.out.facts.1))
     have hS1' : (fun w' : World => Below w.heap.size w w' ∧ VarAt w.heap.size 9 t.num (.slice (some ⟨b, o, none⟩) 4 cap) w' ∧ VarAt gN B.kind B.num (.slice p0 B.kids.length q0) w') v14 := ⟨bAfter hS1.1 hb2, hS1.2.1.below hb2, hS1.2.2.below hb2⟩
     refine hK.out _ _ (ph_one (by kernel_rfl) hS1') ?_
     clear hK K
     try simp only [pts]
     replace HXP := tuck (HXP.out.below hb2)
     replace HXZ := tuck (HXZ.out.below hb2)
     replace HZ2 := tuck (HZ2.out.below hb2)
     replace HLE := tuck (Nat.le_trans HLE.out hb2.size)
     replace V4 := tuck (V4.out.below hb2)
     clear hb2 hs2
     clear hS1
     have hS1 := hS1'
     clear hS1'
     refine AnyTwo.step (i := 16) (o := ⟨some 53, _, _, _, _, _⟩) (by kernel_rfl) rfl (fun K hK => ?_)
     go_simp
     refine (HCB.out _ hS1.1).mono ?_
     rintro e' v16 ⟨hb2, raB, rcB, rfl, hs2⟩
     have HXB := tuck (SlX.of_sl (X := (fun i => i < w.heap.size + 2 ∨ i = g4)) hs2 (fun i hi => by
      rcases hi with hi | rfl
      ·exact Nat.lt_of_lt_of_le hi HLE.out
      ·exact V4.out.facts.1))
     have hS1' : (fun w' : World => Below w.heap.size w w' ∧ VarAt w.heap.size 9 t.num (.slice (some ⟨b, o, none⟩) 4 cap) w' ∧ VarAt gN B.kind B.num (.slice p0 B.kids.length q0) w') v16 := ⟨bAfter hS1.1 hb2, hS1.2.1.below hb2, hS1.2.2.below hb2⟩
     refine hK.out _ _ (ph_one (by kernel_rfl) hS1') ?_
     clear hK K
     try simp only [pts]
     replace HXP := tuck (HXP.out.below hb2)
     replace HXZ := tuck (HXZ.out.below hb2)
     replace HXS := tuck (HXS.out.below hb2)
     replace HZ2 := tuck (HZ2.out.below hb2)
     replace HLE := tuck (Nat.le_trans HLE.out hb2.size)
     replace V4 := tuck (V4.out.below hb2)
     clear hb2 hs2
     clear hS1
     have hS1 := hS1'
     clear hS1'
     refine AnyTwo.step (i := 17) (o := ⟨some 54, _, _, _, _, _⟩) (by kernel_rfl) rfl (fun K hK => ?_)
     go_simp
     have hb2 := below1 v16 (.cells #[.int .i64 P.kind, .int .i64 P.num, .slice raP P.kids.length rcP, .int .i64 Z.kind, .int .i64 Z.num, .slice raZ Z.kids.length rcZ, .int .i64 S.kind, .int .i64 S.num, .slice raS S.kids.length rcS, .int .i64 B.kind, .int .i64 B.num, .slice raB B.kids.length rcB] 25)
     have HRB := tuck (heap_new v16 (.cells #[.int .i64 P.kind, .int .i64 P.num, .slice raP P.kids.length rcP, .int .i64 Z.kind, .int .i64 Z.num, .slice raZ Z.kids.length rcZ, .int .i64 S.kind, .int .i64 S.num, .slice raS S.kids.length rcS, .int .i64 B.kind, .int .i64 B.num, .slice raB B.kids.length rcB] 25))
     have hS1' : (fun w' : World => Below w.heap.size w w' ∧ VarAt w.heap.size 9 t.num (.slice (some ⟨b, o, none⟩) 4 cap) w' ∧ VarAt gN B.kind B.num (.slice p0 B.kids.length q0) w') (v16.alloc (.cells #[.int .i64 P.kind, .int .i64 P.num, .slice raP P.kids.length rcP, .int .i64 Z.kind, .int .i64 Z.num, .slice raZ Z.kids.length rcZ, .int .i64 S.kind, .int .i64 S.num, .slice raS S.kids.length rcS, .int .i64 B.kind, .int .i64 B.num, .slice raB B.kids.length rcB] 25)) := ⟨bAfter hS1.1 hb2, hS1.2.1.below hb2, hS1.2.2.below hb2⟩
     refine hK.out _ _ (ph_one (by kernel_rfl) hS1') ?_
     clear hK K
     try simp only [pts]
     replace HXP := tuck (HXP.out.below hb2)
     replace HXZ := tuck (HXZ.out.below hb2)
     replace HXS := tuck (HXS.out.below hb2)
     replace HXB := tuck (HXB.out.below hb2)
     replace HZ2 := tuck (HZ2.out.below hb2)
     replace HLE := tuck (Nat.le_trans HLE.out hb2.size)
     replace V4 := tuck (V4.out.below hb2)
     clear hb2
     generalize v16.alloc (.cells #[.int .i64 P.kind, .int .i64 P.num, .slice raP P.kids.length rcP, .int .i64 Z.kind, .int .i64 Z.num, .slice raZ Z.kids.length rcZ, .int .i64 S.kind, .int .i64 S.num, .slice raS S.kids.length rcS, .int .i64 B.kind, .int .i64 B.num, .slice raB B.kids.length rcB] 25) = v17 at *
     generalize v16.heap.size = gR at *
     clear hS1
     have hS1 := hS1'
     clear hS1'
     refine AnyTwo.step (i := 18) (o := ⟨some 55, _, _, _, _, _⟩) (by kernel_rfl) rfl (fun K hK => ?_)
     go_simp
     refine (nodeX_any 9 [(P, .slice raP P.kids.length rcP), (Z, .slice raZ Z.kids.length rcZ), (S, .slice raS S.kids.length rcS), (B, .slice raB B.kids.length rcB)] _ gR 4 _ _ (fun i => i < w.heap.size + 2 ∨ i = g4) (fun i hi => by
      rcases hi with hi | rfl
      ·exact Nat.lt_of_lt_of_le hi HLE.out
      ·exact V4.out.facts.1) (by simp) (by simp) HRB.out (by simp [cellsL, Tm.kind, Tm.num]) (fun x hx => by
      simp only [List.mem_cons, List.not_mem_nil, or_false] at hx
      rcases hx with rfl | rfl | rfl | rfl
      ·exact HXP.out
      ·exact HXZ.out
      ·exact HXS.out
      ·exact HXB.out)).mono ?_
     rintro e' v18 ⟨hb2, raR, rcR, he, hs6⟩
     have he' : e' = .returned (.agg #[.int .i64 9, .int .i64 0, .slice raR 4 rcR]) := he
     subst he'
     have HXR : Hid (SlX v18 (fun i => i < w.heap.size + 2 ∨ i = g4) [P, Z, S, B] (.slice raR 4 rcR)) := tuck hs6
     have hS1' : (fun w' : World => Below w.heap.size w w' ∧ VarAt w.heap.size 9 t.num (.slice (some ⟨b, o, none⟩) 4 cap) w' ∧ VarAt gN B.kind B.num (.slice p0 B.kids.length q0) w') v18 := ⟨bAfter hS1.1 hb2, hS1.2.1.below hb2, hS1.2.2.below hb2⟩
     refine hK.out _ _ (ph_one (by kernel_rfl) hS1') ?_
     clear hK K
     try simp only [pts]
     replace HZ2 := tuck (HZ2.out.below hb2)
     replace HLE := tuck (Nat.le_trans HLE.out hb2.size)
     replace V4 := tuck (V4.out.below hb2)
     clear hb2 hs6 he HRB
     clear hS1
     have hS1 := hS1'
     clear hS1'
     clear HXP HXZ HXS HXB
     obtain ⟨z4, f0, f1, f2, ff⟩ := V4.out.facts
     have q1 : w.heap.size ≠ g4 := by have := HG4.out.1; omega
     have q2 : gN ≠ g4 := by have := HG4.out.2; omega
     have q3 : w.heap.size + 1 ≠ g4 := by have := HG4.out.1; omega
     refine AnyTwo.step (i := 20) (o := ⟨none, _, _, _, _, _⟩) (by kernel_rfl) rfl (fun K hK => ?_)
     go_simp
     have hS1' : (fun w' : World => Below w.heap.size w w' ∧ VarAt w.heap.size 9 t.num (.slice (some ⟨b, o, none⟩) 4 cap) w' ∧ VarAt gN B.kind B.num (.slice p0 B.kids.length q0) w') _ := ⟨bSet3 hS1.1 (by have := HG4.out.1; omega) 0 1 2 (.int .i64 9) (.int .i64 0) (.slice raR 4 rcR), hS1.2.1.far3 q1 0 1 2 (.int .i64 9) (.int .i64 0) (.slice raR 4 rcR), hS1.2.2.far3 q2 0 1 2 (.int .i64 9) (.int .i64 0) (.slice raR 4 rcR)⟩
     refine hK.out _ _ (ph_end (by kernel_rfl) hS1') ?_
     clear hK K
     clear f0 f1 f2 ff
     refine AnyTwo.done (by kernel_rfl) ?_ _
     go_wp2_with fail
     go_meet
     exact ⟨g4, raR, rcR, rfl, hS1'.1, hS1'.2.1, hS1'.2.2, V4.out.set, (HXR.out.put (Or.inr rfl) _ _ _ _ _ _).less (fun i hi => Or.inl hi), by rw [size_set3]; exact HLE.out, HZ2.out.far3 q3 _ _ _ _ _ _, HG4.out.1⟩
   ·skip
    go_simp
    have hb2 := below1 v4 (.cells #[.int .i64 0, .int .i64 0, .slice none 0 0] 25)
    have V4 := tuck (VarAt.new v4 0 0 (.slice none 0 0))
    have HG4 : Hid (w.heap.size + 2 ≤ v4.heap.size ∧ gN < v4.heap.size) := tuck ⟨HLE.out, hS1.2.2.facts.1⟩
    have hS1' : (fun w' : World => Below w.heap.size w w' ∧ VarAt w.heap.size 9 t.num (.slice (some ⟨b, o, none⟩) 4 cap) w' ∧ VarAt gN B.kind B.num (.slice p0 B.kids.length q0) w') (v4.alloc (.cells #[.int .i64 0, .int .i64 0, .slice none 0 0] 25)) := ⟨bAfter hS1.1 hb2, hS1.2.1.below hb2, hS1.2.2.below hb2⟩
    refine hK.out _ _ (ph_one (by kernel_rfl) hS1') ?_
    clear hK K
    try simp only [pts]
    replace HXP := tuck (HXP.out.lay (.cells #[.int .i64 0, .int .i64 0, .slice none 0 0] 25))
    replace HZ2 := tuck (HZ2.out.below hb2)
    replace HLE := tuck (Nat.le_trans HLE.out hb2.size)
    clear hb2
    generalize v4.alloc (.cells #[.int .i64 0, .int .i64 0, .slice none 0 0] 25) = v19 at *
    generalize v4.heap.size = g4 at *
    clear hS1
    have hS1 := hS1'
    clear hS1'
    refine AnyTwo.step (i := 9) (o := ⟨some 46, _, _, _, _, _⟩) (by kernel_rfl) rfl (fun K hK => ?_)
    go_simp
    refine (HCZ.out _ hS1.1).mono ?_
    rintro e' v9 ⟨hb2, raZ, rcZ, rfl, hs2⟩
    have HXZ := tuck (SlX.of_sl (X := (fun i => i < w.heap.size + 2 ∨ i = g4)) hs2 (fun i hi => by
     rcases hi with hi | rfl
     ·exact Nat.lt_of_lt_of_le hi HLE.out
     ·exact V4.out.facts.1))
    have hS1' : (fun w' : World => Below w.heap.size w w' ∧ VarAt w.heap.size 9 t.num (.slice (some ⟨b, o, none⟩) 4 cap) w' ∧ VarAt gN B.kind B.num (.slice p0 B.kids.length q0) w') v9 := ⟨bAfter hS1.1 hb2, hS1.2.1.below hb2, hS1.2.2.below hb2⟩
    refine hK.out _ _ (ph_one (by kernel_rfl) hS1') ?_
    clear hK K
    try simp only [pts]
    replace HXP := tuck (HXP.out.below hb2)
    replace HZ2 := tuck (HZ2.out.below hb2)
    replace HLE := tuck (Nat.le_trans HLE.out hb2.size)
    replace V4 := tuck (V4.out.below hb2)
    clear hb2 hs2
    clear hS1
    have hS1 := hS1'
    clear hS1'
    refine AnyTwo.step (i := 14) (o := ⟨some 51, _, _, _, _, _⟩) (by kernel_rfl) rfl (fun K hK => ?_)
    go_simp
    refine (HCS.out _ hS1.1).mono ?_
    rintro e' v14 ⟨hb2, raS, rcS, rfl, hs2⟩
    have HXS := tuck (SlX.of_sl (X := (fun i => i < w.heap.size + 2 ∨ i = g4)) hs2 (fun i hi => by
     rcases hi with hi | rfl
     ·exact Nat.lt_of_lt_of_le hi HLE.out
     ·exact V4.out.facts.1))
    have hS1' : (fun w' : World => Below w.heap.size w w' ∧ VarAt w.heap.size 9 t.num (.slice (some ⟨b, o, none⟩) 4 cap) w' ∧ VarAt gN B.kind B.num (.slice p0 B.kids.length q0) w') v14 := ⟨bAfter hS1.1 hb2, hS1.2.1.below hb2, hS1.2.2.below hb2⟩
    refine hK.out _ _ (ph_one (by kernel_rfl) hS1') ?_
    clear hK K
    try simp only [pts]
    replace HXP := tuck (HXP.out.below hb2)
    replace HXZ := tuck (HXZ.out.below hb2)
    replace HZ2 := tuck (HZ2.out.below hb2)
    replace HLE := tuck (Nat.le_trans HLE.out hb2.size)
    replace V4 := tuck (V4.out.below hb2)
    clear hb2 hs2
    clear hS1
    have hS1 := hS1'
    clear hS1'
    refine AnyTwo.step (i := 16) (o := ⟨some 53, _, _, _, _, _⟩) (by kernel_rfl) rfl (fun K hK => ?_)
    go_simp
    refine (HCB.out _ hS1.1).mono ?_
    rintro e' v16 ⟨hb2, raB, rcB, rfl, hs2⟩
    have HXB := tuck (SlX.of_sl (X := (fun i => i < w.heap.size + 2 ∨ i = g4)) hs2 (fun i hi => by
     rcases hi with hi | rfl
     ·exact Nat.lt_of_lt_of_le hi HLE.out
     ·exact V4.out.facts.1))
    have hS1' : (fun w' : World => Below w.heap.size w w' ∧ VarAt w.heap.size 9 t.num (.slice (some ⟨b, o, none⟩) 4 cap) w' ∧ VarAt gN B.kind B.num (.slice p0 B.kids.length q0) w') v16 := ⟨bAfter hS1.1 hb2, hS1.2.1.below hb2, hS1.2.2.below hb2⟩
    refine hK.out _ _ (ph_one (by kernel_rfl) hS1') ?_
    clear hK K
    try simp only [pts]
    replace HXP := tuck (HXP.out.below hb2)
    replace HXZ := tuck (HXZ.out.below hb2)
    replace HXS := tuck (HXS.out.below hb2)
    replace HZ2 := tuck (HZ2.out.below hb2)
    replace HLE := tuck (Nat.le_trans HLE.out hb2.size)
    replace V4 := tuck (V4.out.below hb2)
    clear hb2 hs2
    clear hS1
    have hS1 := hS1'
    clear hS1'
    refine AnyTwo.step (i := 17) (o := ⟨some 54, _, _, _, _, _⟩) (by kernel_rfl) rfl (fun K hK => ?_)
    go_simp
    have hb2 := below1 v16 (.cells #[.int .i64 P.kind, .int .i64 P.num, .slice raP P.kids.length rcP, .int .i64 Z.kind, .int .i64 Z.num, .slice raZ Z.kids.length rcZ, .int .i64 S.kind, .int .i64 S.num, .slice raS S.kids.length rcS, .int .i64 B.kind, .int .i64 B.num, .slice raB B.kids.length rcB] 25)
    have HRB := tuck (heap_new v16 (.cells #[.int .i64 P.kind, .int .i64 P.num, .slice raP P.kids.length rcP, .int .i64 Z.kind, .int .i64 Z.num, .slice raZ Z.kids.length rcZ, .int .i64 S.kind, .int .i64 S.num, .slice raS S.kids.length rcS, .int .i64 B.kind, .int .i64 B.num, .slice raB B.kids.length rcB] 25))
    have hS1' : (fun w' : World => Below w.heap.size w w' ∧ VarAt w.heap.size 9 t.num (.slice (some ⟨b, o, none⟩) 4 cap) w' ∧ VarAt gN B.kind B.num (.slice p0 B.kids.length q0) w') (v16.alloc (.cells #[.int .i64 P.kind, .int .i64 P.num, .slice raP P.kids.length rcP, .int .i64 Z.kind, .int .i64 Z.num, .slice raZ Z.kids.length rcZ, .int .i64 S.kind, .int .i64 S.num, .slice raS S.kids.length rcS, .int .i64 B.kind, .int .i64 B.num, .slice raB B.kids.length rcB] 25)) := ⟨bAfter hS1.1 hb2, hS1.2.1.below hb2, hS1.2.2.below hb2⟩
    refine hK.out _ _ (ph_one (by kernel_rfl) hS1') ?_
    clear hK K
    try simp only [pts]
    replace HXP := tuck (HXP.out.below hb2)
    replace HXZ := tuck (HXZ.out.below hb2)
    replace HXS := tuck (HXS.out.below hb2)
    replace HXB := tuck (HXB.out.below hb2)
    replace HZ2 := tuck (HZ2.out.below hb2)
    replace HLE := tuck (Nat.le_trans HLE.out hb2.size)
    replace V4 := tuck (V4.out.below hb2)
    clear hb2
    generalize v16.alloc (.cells #[.int .i64 P.kind, .int .i64 P.num, .slice raP P.kids.length rcP, .int .i64 Z.kind, .int .i64 Z.num, .slice raZ Z.kids.length rcZ, .int .i64 S.kind, .int .i64 S.num, .slice raS S.kids.length rcS, .int .i64 B.kind, .int .i64 B.num, .slice raB B.kids.length rcB] 25) = v17 at *
    generalize v16.heap.size = gR at *
    clear hS1
    have hS1 := hS1'
    clear hS1'
    refine AnyTwo.step (i := 18) (o := ⟨some 55, _, _, _, _, _⟩) (by kernel_rfl) rfl (fun K hK => ?_)
    go_simp
    refine (nodeX_any 9 [(P, .slice raP P.kids.length rcP), (Z, .slice raZ Z.kids.length rcZ), (S, .slice raS S.kids.length rcS), (B, .slice raB B.kids.length rcB)] _ gR 4 _ _ (fun i => i < w.heap.size + 2 ∨ i = g4) (fun i hi => by
     rcases hi with hi | rfl
     ·exact Nat.lt_of_lt_of_le hi HLE.out
     ·exact V4.out.facts.1) (by simp) (by simp) HRB.out (by simp [cellsL, Tm.kind, Tm.num]) (fun x hx => by
     simp only [List.mem_cons, List.not_mem_nil, or_false] at hx
     rcases hx with rfl | rfl | rfl | rfl
     ·exact HXP.out
     ·exact HXZ.out
     ·exact HXS.out
     ·exact HXB.out)).mono ?_
    rintro e' v18 ⟨hb2, raR, rcR, he, hs6⟩
    have he' : e' = .returned (.agg #[.int .i64 9, .int .i64 0, .slice raR 4 rcR]) := he
    subst he'
    have HXR : Hid (SlX v18 (fun i => i < w.heap.size + 2 ∨ i = g4) [P, Z, S, B] (.slice raR 4 rcR)) := tuck hs6
    have hS1' : (fun w' : World => Below w.heap.size w w' ∧ VarAt w.heap.size 9 t.num (.slice (some ⟨b, o, none⟩) 4 cap) w' ∧ VarAt gN B.kind B.num (.slice p0 B.kids.length q0) w') v18 := ⟨bAfter hS1.1 hb2, hS1.2.1.below hb2, hS1.2.2.below hb2⟩
    refine hK.out _ _ (ph_one (by kernel_rfl) hS1') ?_
    clear hK K
    try simp only [pts]
    replace HZ2 := tuck (HZ2.out.below hb2)
    replace HLE := tuck (Nat.le_trans HLE.out hb2.size)
    replace V4 := tuck (V4.out.below hb2)
    clear hb2 hs6 he HRB
    clear hS1
    have hS1 := hS1'
    clear hS1'
    clear HXP HXZ HXS HXB
    obtain ⟨z4, f0, f1, f2, ff⟩ := V4.out.facts
    have q1 : w.heap.size ≠ g4 := by have := HG4.out.1; omega
    have q2 : gN ≠ g4 := by have := HG4.out.2; omega
    have q3 : w.heap.size + 1 ≠ g4 := by have := HG4.out.1; omega
    refine AnyTwo.step (i := 20) (o := ⟨none, _, _, _, _, _⟩) (by kernel_rfl) rfl (fun K hK => ?_)
    go_simp
    have hS1' : (fun w' : World => Below w.heap.size w w' ∧ VarAt w.heap.size 9 t.num (.slice (some ⟨b, o, none⟩) 4 cap) w' ∧ VarAt gN B.kind B.num (.slice p0 B.kids.length q0) w') _ := ⟨bSet3 hS1.1 (by have := HG4.out.1; omega) 0 1 2 (.int .i64 9) (.int .i64 0) (.slice raR 4 rcR), hS1.2.1.far3 q1 0 1 2 (.int .i64 9) (.int .i64 0) (.slice raR 4 rcR), hS1.2.2.far3 q2 0 1 2 (.int .i64 9) (.int .i64 0) (.slice raR 4 rcR)⟩
    refine hK.out _ _ (ph_end (by kernel_rfl) hS1') ?_
    clear hK K
    clear f0 f1 f2 ff
    refine AnyTwo.done (by kernel_rfl) ?_ _
    go_wp2_with fail
    go_meet
    exact ⟨g4, raR, rcR, rfl, hS1'.1, hS1'.2.1, hS1'.2.2, V4.out.set, (HXR.out.put (Or.inr rfl) _ _ _ _ _ _).less (fun i hi => Or.inl hi), by rw [size_set3]; exact HLE.out, HZ2.out.far3 q3 _ _ _ _ _ _, HG4.out.1⟩
  ·skip
   go_simp
   have hb2 := below1 v0 (.cells #[.int .i64 0, .int .i64 0, .slice none 0 0] 25)
   have V4 := tuck (VarAt.new v0 0 0 (.slice none 0 0))
   have HG4 : Hid (w.heap.size + 2 ≤ v0.heap.size ∧ gN < v0.heap.size) := tuck ⟨HLE.out, hS1.2.2.facts.1⟩
   have hS1' : (fun w' : World => Below w.heap.size w w' ∧ VarAt w.heap.size 9 t.num (.slice (some ⟨b, o, none⟩) 4 cap) w' ∧ VarAt gN B.kind B.num (.slice p0 B.kids.length q0) w') (v0.alloc (.cells #[.int .i64 0, .int .i64 0, .slice none 0 0] 25)) := ⟨bAfter hS1.1 hb2, hS1.2.1.below hb2, hS1.2.2.below hb2⟩
   refine hK.out _ _ (ph_one (by kernel_rfl) hS1') ?_
   clear hK K
   try simp only [pts]
   replace HZ2 := tuck (HZ2.out.below hb2)
   replace HLE := tuck (Nat.le_trans HLE.out hb2.size)
   clear hb2
   generalize v0.alloc (.cells #[.int .i64 0, .int .i64 0, .slice none 0 0] 25) = v19 at *
   generalize v0.heap.size = g4 at *
   clear hS1
   have hS1 := hS1'
   clear hS1'
   refine AnyTwo.step (i := 4) (o := ⟨some 41, _, _, _, _, _⟩) (by kernel_rfl) rfl (fun K hK => ?_)
   go_simp
   refine (HCP.out _ hS1.1).mono ?_
   rintro e' v4 ⟨hb2, raP, rcP, rfl, hs2⟩
   have HXP := tuck (SlX.of_sl (X := (fun i => i < w.heap.size + 2 ∨ i = g4)) hs2 (fun i hi => by
    rcases hi with hi | rfl
    ·exact Nat.lt_of_lt_of_le hi HLE.out
    ·exact V4.out.facts.1))
   have hS1' : (fun w' : World => Below w.heap.size w w' ∧ VarAt w.heap.size 9 t.num (.slice (some ⟨b, o, none⟩) 4 cap) w' ∧ VarAt gN B.kind B.num (.slice p0 B.kids.length q0) w') v4 := ⟨bAfter hS1.1 hb2, hS1.2.1.below hb2, hS1.2.2.below hb2⟩
   refine hK.out _ _ (ph_one (by kernel_rfl) hS1') ?_
   clear hK K
   try simp only [pts]
   replace HZ2 := tuck (HZ2.out.below hb2)
   replace HLE := tuck (Nat.le_trans HLE.out hb2.size)
   replace V4 := tuck (V4.out.below hb2)
   clear hb2 hs2
   clear hS1
   have hS1 := hS1'
   clear hS1'
   refine AnyTwo.step (i := 9) (o := ⟨some 46, _, _, _, _, _⟩) (by kernel_rfl) rfl (fun K hK => ?_)
   go_simp
   refine (HCZ.out _ hS1.1).mono ?_
   rintro e' v9 ⟨hb2, raZ, rcZ, rfl, hs2⟩
   have HXZ := tuck (SlX.of_sl (X := (fun i => i < w.heap.size + 2 ∨ i = g4)) hs2 (fun i hi => by
    rcases hi with hi | rfl
    ·exact Nat.lt_of_lt_of_le hi HLE.out
    ·exact V4.out.facts.1))
   have hS1' : (fun w' : World => Below w.heap.size w w' ∧ VarAt w.heap.size 9 t.num (.slice (some ⟨b, o, none⟩) 4 cap) w' ∧ VarAt gN B.kind B.num (.slice p0 B.kids.length q0) w') v9 := ⟨bAfter hS1.1 hb2, hS1.2.1.below hb2, hS1.2.2.below hb2⟩
   refine hK.out _ _ (ph_one (by kernel_rfl) hS1') ?_
   clear hK K
   try simp only [pts]
   replace HXP := tuck (HXP.out.below hb2)
   replace HZ2 := tuck (HZ2.out.below hb2)
   replace HLE := tuck (Nat.le_trans HLE.out hb2.size)
   replace V4 := tuck (V4.out.below hb2)
   clear hb2 hs2
   clear hS1
   have hS1 := hS1'
   clear hS1'
   refine AnyTwo.step (i := 14) (o := ⟨some 51, _, _, _, _, _⟩) (by kernel_rfl) rfl (fun K hK => ?_)
   go_simp
   refine (HCS.out _ hS1.1).mono ?_
   rintro e' v14 ⟨hb2, raS, rcS, rfl, hs2⟩
   have HXS := tuck (SlX.of_sl (X := (fun i => i < w.heap.size + 2 ∨ i = g4)) hs2 (fun i hi => by
    rcases hi with hi | rfl
    ·exact Nat.lt_of_lt_of_le hi HLE.out
    ·exact V4.out.facts.1))
   have hS1' : (fun w' : World => Below w.heap.size w w' ∧ VarAt w.heap.size 9 t.num (.slice (some ⟨b, o, none⟩) 4 cap) w' ∧ VarAt gN B.kind B.num (.slice p0 B.kids.length q0) w') v14 := ⟨bAfter hS1.1 hb2, hS1.2.1.below hb2, hS1.2.2.below hb2⟩
   refine hK.out _ _ (ph_one (by kernel_rfl) hS1') ?_
   clear hK K
   try simp only [pts]
   replace HXP := tuck (HXP.out.below hb2)
   replace HXZ := tuck (HXZ.out.below hb2)
   replace HZ2 := tuck (HZ2.out.below hb2)
   replace HLE := tuck (Nat.le_trans HLE.out hb2.size)
   replace V4 := tuck (V4.out.below hb2)
   clear hb2 hs2
   clear hS1
   have hS1 := hS1'
   clear hS1'
   refine AnyTwo.step (i := 16) (o := ⟨some 53, _, _, _, _, _⟩) (by kernel_rfl) rfl (fun K hK => ?_)
   go_simp
   refine (HCB.out _ hS1.1).mono ?_
   rintro e' v16 ⟨hb2, raB, rcB, rfl, hs2⟩
   have HXB := tuck (SlX.of_sl (X := (fun i => i < w.heap.size + 2 ∨ i = g4)) hs2 (fun i hi => by
    rcases hi with hi | rfl
    ·exact Nat.lt_of_lt_of_le hi HLE.out
    ·exact V4.out.facts.1))
   have hS1' : (fun w' : World => Below w.heap.size w w' ∧ VarAt w.heap.size 9 t.num (.slice (some ⟨b, o, none⟩) 4 cap) w' ∧ VarAt gN B.kind B.num (.slice p0 B.kids.length q0) w') v16 := ⟨bAfter hS1.1 hb2, hS1.2.1.below hb2, hS1.2.2.below hb2⟩
   refine hK.out _ _ (ph_one (by kernel_rfl) hS1') ?_
   clear hK K
   try simp only [pts]
   replace HXP := tuck (HXP.out.below hb2)
   replace HXZ := tuck (HXZ.out.below hb2)
   replace HXS := tuck (HXS.out.below hb2)
   replace HZ2 := tuck (HZ2.out.below hb2)
   replace HLE := tuck (Nat.le_trans HLE.out hb2.size)
   replace V4 := tuck (V4.out.below hb2)
   clear hb2 hs2
   clear hS1
   have hS1 := hS1'
   clear hS1'
   refine AnyTwo.step (i := 17) (o := ⟨some 54, _, _, _, _, _⟩) (by kernel_rfl) rfl (fun K hK => ?_)
   go_simp
   have hb2 := below1 v16 (.cells #[.int .i64 P.kind, .int .i64 P.num, .slice raP P.kids.length rcP, .int .i64 Z.kind, .int .i64 Z.num, .slice raZ Z.kids.length rcZ, .int .i64 S.kind, .int .i64 S.num, .slice raS S.kids.length rcS, .int .i64 B.kind, .int .i64 B.num, .slice raB B.kids.length rcB] 25)
   have HRB := tuck (heap_new v16 (.cells #[.int .i64 P.kind, .int .i64 P.num, .slice raP P.kids.length rcP, .int .i64 Z.kind, .int .i64 Z.num, .slice raZ Z.kids.length rcZ, .int .i64 S.kind, .int .i64 S.num, .slice raS S.kids.length rcS, .int .i64 B.kind, .int .i64 B.num, .slice raB B.kids.length rcB] 25))
   have hS1' : (fun w' : World => Below w.heap.size w w' ∧ VarAt w.heap.size 9 t.num (.slice (some ⟨b, o, none⟩) 4 cap) w' ∧ VarAt gN B.kind B.num (.slice p0 B.kids.length q0) w') (v16.alloc (.cells #[.int .i64 P.kind, .int .i64 P.num, .slice raP P.kids.length rcP, .int .i64 Z.kind, .int .i64 Z.num, .slice raZ Z.kids.length rcZ, .int .i64 S.kind, .int .i64 S.num, .slice raS S.kids.length rcS, .int .i64 B.kind, .int .i64 B.num, .slice raB B.kids.length rcB] 25)) := ⟨bAfter hS1.1 hb2, hS1.2.1.below hb2, hS1.2.2.below hb2⟩
   refine hK.out _ _ (ph_one (by kernel_rfl) hS1') ?_
   clear hK K
   try simp only [pts]
   replace HXP := tuck (HXP.out.below hb2)
   replace HXZ := tuck (HXZ.out.below hb2)
   replace HXS := tuck (HXS.out.below hb2)
   replace HXB := tuck (HXB.out.below hb2)
   replace HZ2 := tuck (HZ2.out.below hb2)
   replace HLE := tuck (Nat.le_trans HLE.out hb2.size)
   replace V4 := tuck (V4.out.below hb2)
   clear hb2
   generalize v16.alloc (.cells #[.int .i64 P.kind, .int .i64 P.num, .slice raP P.kids.length rcP, .int .i64 Z.kind, .int .i64 Z.num, .slice raZ Z.kids.length rcZ, .int .i64 S.kind, .int .i64 S.num, .slice raS S.kids.length rcS, .int .i64 B.kind, .int .i64 B.num, .slice raB B.kids.length rcB] 25) = v17 at *
   generalize v16.heap.size = gR at *
   clear hS1
   have hS1 := hS1'
   clear hS1'
   refine AnyTwo.step (i := 18) (o := ⟨some 55, _, _, _, _, _⟩) (by kernel_rfl) rfl (fun K hK => ?_)
   go_simp
   refine (nodeX_any 9 [(P, .slice raP P.kids.length rcP), (Z, .slice raZ Z.kids.length rcZ), (S, .slice raS S.kids.length rcS), (B, .slice raB B.kids.length rcB)] _ gR 4 _ _ (fun i => i < w.heap.size + 2 ∨ i = g4) (fun i hi => by
    rcases hi with hi | rfl
    ·exact Nat.lt_of_lt_of_le hi HLE.out
    ·exact V4.out.facts.1) (by simp) (by simp) HRB.out (by simp [cellsL, Tm.kind, Tm.num]) (fun x hx => by
    simp only [List.mem_cons, List.not_mem_nil, or_false] at hx
    rcases hx with rfl | rfl | rfl | rfl
    ·exact HXP.out
    ·exact HXZ.out
    ·exact HXS.out
    ·exact HXB.out)).mono ?_
   rintro e' v18 ⟨hb2, raR, rcR, he, hs6⟩
   have he' : e' = .returned (.agg #[.int .i64 9, .int .i64 0, .slice raR 4 rcR]) := he
   subst he'
   have HXR : Hid (SlX v18 (fun i => i < w.heap.size + 2 ∨ i = g4) [P, Z, S, B] (.slice raR 4 rcR)) := tuck hs6
   have hS1' : (fun w' : World => Below w.heap.size w w' ∧ VarAt w.heap.size 9 t.num (.slice (some ⟨b, o, none⟩) 4 cap) w' ∧ VarAt gN B.kind B.num (.slice p0 B.kids.length q0) w') v18 := ⟨bAfter hS1.1 hb2, hS1.2.1.below hb2, hS1.2.2.below hb2⟩
   refine hK.out _ _ (ph_one (by kernel_rfl) hS1') ?_
   clear hK K
   try simp only [pts]
   replace HZ2 := tuck (HZ2.out.below hb2)
   replace HLE := tuck (Nat.le_trans HLE.out hb2.size)
   replace V4 := tuck (V4.out.below hb2)
   clear hb2 hs6 he HRB
   clear hS1
   have hS1 := hS1'
   clear hS1'
   clear HXP HXZ HXS HXB
   obtain ⟨z4, f0, f1, f2, ff⟩ := V4.out.facts
   have q1 : w.heap.size ≠ g4 := by have := HG4.out.1; omega
   have q2 : gN ≠ g4 := by have := HG4.out.2; omega
   have q3 : w.heap.size + 1 ≠ g4 := by have := HG4.out.1; omega
   refine AnyTwo.step (i := 20) (o := ⟨none, _, _, _, _, _⟩) (by kernel_rfl) rfl (fun K hK => ?_)
   go_simp
   have hS1' : (fun w' : World => Below w.heap.size w w' ∧ VarAt w.heap.size 9 t.num (.slice (some ⟨b, o, none⟩) 4 cap) w' ∧ VarAt gN B.kind B.num (.slice p0 B.kids.length q0) w') _ := ⟨bSet3 hS1.1 (by have := HG4.out.1; omega) 0 1 2 (.int .i64 9) (.int .i64 0) (.slice raR 4 rcR), hS1.2.1.far3 q1 0 1 2 (.int .i64 9) (.int .i64 0) (.slice raR 4 rcR), hS1.2.2.far3 q2 0 1 2 (.int .i64 9) (.int .i64 0) (.slice raR 4 rcR)⟩
   refine hK.out _ _ (ph_end (by kernel_rfl) hS1') ?_
   clear hK K
   clear f0 f1 f2 ff
   refine AnyTwo.done (by kernel_rfl) ?_ _
   go_wp2_with fail
   go_meet
   exact ⟨g4, raR, rcR, rfl, hS1'.1, hS1'.2.1, hS1'.2.2, V4.out.set, (HXR.out.put (Or.inr rfl) _ _ _ _ _ _).less (fun i hi => Or.inl hi), by rw [size_set3]; exact HLE.out, HZ2.out.far3 q3 _ _ _ _ _ _, HG4.out.1⟩
 case rest =>
  obtain ⟨g4, ra, rc, rfl, hb9, hv0, hvn, hv4, hr9, hle9, hz9, hg4⟩ := hcut
  rename World => W9
  have HS0 : Hid ((fun w' : World => Below w.heap.size w w' ∧ VarAt w.heap.size 9 t.num (.slice (some ⟨b, o, none⟩) 4 cap) w' ∧ VarAt gN B.kind B.num (.slice p0 B.kids.length q0) w' ∧ VarAt g4 9 0 (.slice ra 4 rc) w') W9.drew) := tuck ⟨bAfter hb9 (Below.refl _ _).drew, hv0.below (Below.refl _ _).drew, hvn.below (Below.refl _ _).drew, hv4.below (Below.refl _ _).drew⟩
  have HXQ := tuck (hr9.below (Below.refl _ _).drew)
  clear HLE HZ2 HCELLS
  have HZ2 := tuck (hz9.below (Below.refl _ _).drew)
  have HLE : Hid (w.heap.size + 2 ≤ W9.drew.heap.size) := tuck hle9
  have HG4 := tuck hg4
  have HGN := tuck hgN
  clear hb9 hv0 hvn hv4 hr9 hle9 hz9 hg4
  have HCELLS : Hid (∀ w', Below w.heap.size w w' ∧ VarAt w.heap.size 9 t.num (.slice (some ⟨b, o, none⟩) 4 cap) w' ∧ VarAt gN B.kind B.num (.slice p0 B.kids.length q0) w' ∧ VarAt g4 9 0 (.slice ra 4 rc) w' → w'.cell? ⟨w.heap.size, 2, none⟩ = some (.slice (some ⟨b, o, none⟩) 4 cap) ∧ w'.cell? ⟨gN, 0, none⟩ = some (.int .i64 B.kind) ∧ w'.cell? ⟨gN, 1, none⟩ = some (.int .i64 B.num) ∧ w'.cell? ⟨gN, 2, none⟩ = some (.slice p0 B.kids.length q0) ∧ w'.cell? ⟨g4, 0, none⟩ = some (.int .i64 9) ∧ w'.cell? ⟨g4, 1, none⟩ = some (.int .i64 0) ∧ w'.cell? ⟨g4, 2, none⟩ = some (.slice ra 4 rc) ∧ w'.cell? ⟨b, o, none⟩ = some (.int .i64 P.kind) ∧ w'.cell? ⟨b, o + 1, none⟩ = some (.int .i64 P.num) ∧ w'.cell? ⟨b, o + 2, none⟩ = some (.slice a0 P.kids.length n0) ∧ w'.cell? ⟨b, o + 3, none⟩ = some (.int .i64 Z.kind) ∧ w'.cell? ⟨b, o + 4, none⟩ = some (.int .i64 Z.num) ∧ w'.cell? ⟨b, o + 5, none⟩ = some (.slice a1 Z.kids.length n1) ∧ w'.cell? ⟨b, o + 6, none⟩ = some (.int .i64 S.kind) ∧ w'.cell? ⟨b, o + 7, none⟩ = some (.int .i64 S.num) ∧ w'.cell? ⟨b, o + 8, none⟩ = some (.slice a2 S.kids.length n2) ∧ w'.cell? ⟨b, o + 9, none⟩ = some (.int .i64 M.kind) ∧ w'.cell? ⟨b, o + 10, none⟩ = some (.int .i64 M.num) ∧ w'.cell? ⟨b, o + 11, none⟩ = some (.slice (some ⟨bm, om, none⟩) 1 capm) ∧ w'.cell? ⟨bm, om, none⟩ = some (.int .i64 B.kind) ∧ w'.cell? ⟨bm, om + 1, none⟩ = some (.int .i64 B.num) ∧ w'.cell? ⟨bm, om + 2, none⟩ = some (.slice p0 B.kids.length q0)) := tuck fun w' h => ⟨h.2.1.facts.2.2.2.1, h.2.2.1.facts.2.1, h.2.2.1.facts.2.2.1, h.2.2.1.facts.2.2.2.1, h.2.2.2.facts.2.1, h.2.2.2.facts.2.2.1, h.2.2.2.facts.2.2.2.1, HROW.out w' h.1⟩
  go_wp2_with fail
  have HT12 : ∀ w' : World, (fun w' : World => Below w.heap.size w w' ∧ VarAt w.heap.size 9 t.num (.slice (some ⟨b, o, none⟩) 4 cap) w' ∧ VarAt gN B.kind B.num (.slice p0 B.kids.length q0) w' ∧ VarAt g4 9 0 (.slice ra 4 rc) w') w' → (fun w' : World => Below w.heap.size w w' ∧ VarAt w.heap.size 9 t.num (.slice (some ⟨b, o, none⟩) 4 cap) w' ∧ VarAt gN B.kind B.num (.slice p0 B.kids.length q0) w' ∧ VarAt g4 9 0 (.slice ra 4 rc) w') w' := fun w' h => h
  refine AnyTwo.begin (fun w' : World => Below w.heap.size w w' ∧ VarAt w.heap.size 9 t.num (.slice (some ⟨b, o, none⟩) 4 cap) w' ∧ VarAt gN B.kind B.num (.slice p0 B.kids.length q0) w' ∧ VarAt g4 9 0 (.slice ra 4 rc) w') (fun w' : World => Below w.heap.size w w' ∧ VarAt w.heap.size 9 t.num (.slice (some ⟨b, o, none⟩) 4 cap) w' ∧ VarAt gN B.kind B.num (.slice p0 B.kids.length q0) w' ∧ VarAt g4 9 0 (.slice ra 4 rc) w') 12 (by kernel_rfl) ?_
  have hS1 : (fun w' : World => Below w.heap.size w w' ∧ VarAt w.heap.size 9 t.num (.slice (some ⟨b, o, none⟩) 4 cap) w' ∧ VarAt gN B.kind B.num (.slice p0 B.kids.length q0) w' ∧ VarAt g4 9 0 (.slice ra 4 rc) w') W9.drew := HS0.out
  refine AnyTwo.takeAny HT12 (i := 0) (oi := ⟨some 56, _, _, _, _, _⟩) (v := ?vb0) rfl (by kernel_rfl) (by kernel_rfl) (by decide +kernel) (by rfl) (fun _ _ _ h => h) (Or.inl ⟨by rfl, ?yb0⟩) (ph_one (by kernel_rfl) hS1) ?rb0
  case yb0 => (intro w hSw; (try dsimp only at hSw); obtain ⟨x0, x1, x2, x3, x4, x5, x6, x7, x8, x9, x10, x11, x12, x13, x14, x15, x16, x17, x18, x19, x20, x21⟩ := HCELLS.out _ hSw; go_simp; try (with_reducible rfl))
  try simp only [pts]
  refine AnyTwo.takeAny HT12 (i := 1) (oi := ⟨some 57, _, _, _, _, _⟩) (v := ?vb1) rfl (by kernel_rfl) (by kernel_rfl) (by decide +kernel) (by rfl) (fun _ _ _ h => h) (Or.inl ⟨by rfl, ?yb1⟩) (ph_one (by kernel_rfl) hS1) ?rb1
  case yb1 => (intro w hSw; (try dsimp only at hSw); obtain ⟨x0, x1, x2, x3, x4, x5, x6, x7, x8, x9, x10, x11, x12, x13, x14, x15, x16, x17, x18, x19, x20, x21⟩ := HCELLS.out _ hSw; go_simp; try (with_reducible rfl))
  try simp only [pts]
  refine AnyTwo.takeAny HT12 (i := 2) (oi := ⟨some 58, _, _, _, _, _⟩) (v := ?vb2) rfl (by kernel_rfl) (by kernel_rfl) (by decide +kernel) (by rfl) (fun _ _ _ h => h) (Or.inl ⟨by rfl, ?yb2⟩) (ph_one (by kernel_rfl) hS1) ?rb2
  case yb2 => (intro w hSw; (try dsimp only at hSw); obtain ⟨x0, x1, x2, x3, x4, x5, x6, x7, x8, x9, x10, x11, x12, x13, x14, x15, x16, x17, x18, x19, x20, x21⟩ := HCELLS.out _ hSw; go_simp; try (with_reducible rfl))
  try simp only [pts]
  refine AnyTwo.takeAny HT12 (i := 3) (oi := ⟨some 59, _, _, _, _, _⟩) (v := ?vb3) rfl (by kernel_rfl) (by kernel_rfl) (by decide +kernel) (by rfl) (fun _ _ _ h => h) (Or.inl ⟨by rfl, ?yb3⟩) (ph_one (by kernel_rfl) hS1) ?rb3
  case yb3 => (intro w hSw; (try dsimp only at hSw); obtain ⟨x0, x1, x2, x3, x4, x5, x6, x7, x8, x9, x10, x11, x12, x13, x14, x15, x16, x17, x18, x19, x20, x21⟩ := HCELLS.out _ hSw; go_simp; try (with_reducible rfl))
  try simp only [pts]
  refine AnyTwo.takeAny HT12 (i := 5) (oi := ⟨some 61, _, _, _, _, _⟩) (v := ?vb5) rfl (by kernel_rfl) (by kernel_rfl) (by decide +kernel) (by rfl) (fun _ _ _ h => h) (Or.inl ⟨by rfl, ?yb5⟩) (ph_one (by kernel_rfl) hS1) ?rb5
  case yb5 => (intro w hSw; (try dsimp only at hSw); obtain ⟨x0, x1, x2, x3, x4, x5, x6, x7, x8, x9, x10, x11, x12, x13, x14, x15, x16, x17, x18, x19, x20, x21⟩ := HCELLS.out _ hSw; go_simp; try (with_reducible rfl))
  try simp only [pts]
  refine AnyTwo.takeAny HT12 (i := 9) (oi := ⟨some 65, _, _, _, _, _⟩) (v := ?vb9) rfl (by kernel_rfl) (by kernel_rfl) (by decide +kernel) (by rfl) (fun _ _ _ h => h) (Or.inl ⟨by rfl, ?yb9⟩) (ph_one (by kernel_rfl) hS1) ?rb9
  case yb9 => (intro w hSw; (try dsimp only at hSw); obtain ⟨x0, x1, x2, x3, x4, x5, x6, x7, x8, x9, x10, x11, x12, x13, x14, x15, x16, x17, x18, x19, x20, x21⟩ := HCELLS.out _ hSw; go_simp; try (with_reducible rfl))
  try simp only [pts]
  clear HT12
  generalize W9.drew = v0 at *
  refine AnyTwo.step (i := 4) (o := ⟨some 60, _, _, _, _, _⟩) (by kernel_rfl) rfl (fun K hK => ?_)
  go_simp
  refine (HCS.out _ hS1.1).mono ?_
  rintro e' v4 ⟨hb2, raS, rcS, rfl, hs2⟩
  have HXS := tuck (SlX.of_sl (X := (fun i => i < w.heap.size + 2)) hs2 (fun i hi => Nat.lt_of_lt_of_le hi HLE.out))
  have hS1' : (fun w' : World => Below w.heap.size w w' ∧ VarAt w.heap.size 9 t.num (.slice (some ⟨b, o, none⟩) 4 cap) w' ∧ VarAt gN B.kind B.num (.slice p0 B.kids.length q0) w' ∧ VarAt g4 9 0 (.slice ra 4 rc) w') v4 := ⟨bAfter hS1.1 hb2, hS1.2.1.below hb2, hS1.2.2.1.below hb2, hS1.2.2.2.below hb2⟩
  refine hK.out _ _ (ph_one (by kernel_rfl) hS1') ?_
  clear hK K
  try simp only [pts]
  replace HXQ := tuck (HXQ.out.below hb2)
  replace HZ2 := tuck (HZ2.out.below hb2)
  replace HLE := tuck (Nat.le_trans HLE.out hb2.size)
  clear hb2 hs2
  clear hS1
  have hS1 := hS1'
  clear hS1'
  refine AnyTwo.step (i := 6) (o := ⟨some 62, _, _, _, _, _⟩) (by kernel_rfl) rfl (fun K hK => ?_)
  go_simp
  refine (HCB.out _ hS1.1).mono ?_
  rintro e' v6 ⟨hb2, raB, rcB, rfl, hs2⟩
  have HXB := tuck (SlX.of_sl (X := (fun i => i < w.heap.size + 2)) hs2 (fun i hi => Nat.lt_of_lt_of_le hi HLE.out))
  have hS1' : (fun w' : World => Below w.heap.size w w' ∧ VarAt w.heap.size 9 t.num (.slice (some ⟨b, o, none⟩) 4 cap) w' ∧ VarAt gN B.kind B.num (.slice p0 B.kids.length q0) w' ∧ VarAt g4 9 0 (.slice ra 4 rc) w') v6 := ⟨bAfter hS1.1 hb2, hS1.2.1.below hb2, hS1.2.2.1.below hb2, hS1.2.2.2.below hb2⟩
  refine hK.out _ _ (ph_one (by kernel_rfl) hS1') ?_
  clear hK K
  try simp only [pts]
  replace HXQ := tuck (HXQ.out.below hb2)
  replace HXS := tuck (HXS.out.below hb2)
  replace HZ2 := tuck (HZ2.out.below hb2)
  replace HLE := tuck (Nat.le_trans HLE.out hb2.size)
  clear hb2 hs2
  clear hS1
  have hS1 := hS1'
  clear hS1'
  refine AnyTwo.step (i := 7) (o := ⟨some 63, _, _, _, _, _⟩) (by kernel_rfl) rfl (fun K hK => ?_)
  go_simp
  have hb2 := below1 v6 (.cells #[.int .i64 S.kind, .int .i64 S.num, .slice raS S.kids.length rcS, .int .i64 B.kind, .int .i64 B.num, .slice raB B.kids.length rcB] 25)
  have HRB := tuck (heap_new v6 (.cells #[.int .i64 S.kind, .int .i64 S.num, .slice raS S.kids.length rcS, .int .i64 B.kind, .int .i64 B.num, .slice raB B.kids.length rcB] 25))
  have hS1' : (fun w' : World => Below w.heap.size w w' ∧ VarAt w.heap.size 9 t.num (.slice (some ⟨b, o, none⟩) 4 cap) w' ∧ VarAt gN B.kind B.num (.slice p0 B.kids.length q0) w' ∧ VarAt g4 9 0 (.slice ra 4 rc) w') (v6.alloc (.cells #[.int .i64 S.kind, .int .i64 S.num, .slice raS S.kids.length rcS, .int .i64 B.kind, .int .i64 B.num, .slice raB B.kids.length rcB] 25)) := ⟨bAfter hS1.1 hb2, hS1.2.1.below hb2, hS1.2.2.1.below hb2, hS1.2.2.2.below hb2⟩
  refine hK.out _ _ (ph_one (by kernel_rfl) hS1') ?_
  clear hK K
  try simp only [pts]
  replace HXQ := tuck (HXQ.out.below hb2)
  replace HXS := tuck (HXS.out.below hb2)
  replace HXB := tuck (HXB.out.below hb2)
  replace HZ2 := tuck (HZ2.out.below hb2)
  replace HLE := tuck (Nat.le_trans HLE.out hb2.size)
  clear hb2
  generalize v6.alloc (.cells #[.int .i64 S.kind, .int .i64 S.num, .slice raS S.kids.length rcS, .int .i64 B.kind, .int .i64 B.num, .slice raB B.kids.length rcB] 25) = v7 at *
  generalize v6.heap.size = gR at *
  clear hS1
  have hS1 := hS1'
  clear hS1'
  refine AnyTwo.step (i := 8) (o := ⟨some 64, _, _, _, _, _⟩) (by kernel_rfl) rfl (fun K hK => ?_)
  go_simp
  refine (nodeX_any 5 [(S, .slice raS S.kids.length rcS), (B, .slice raB B.kids.length rcB)] _ gR 2 _ _ (fun i => i < w.heap.size + 2) (fun i hi => Nat.lt_of_lt_of_le hi HLE.out) (by simp) (by simp) HRB.out (by simp [cellsL, Tm.kind, Tm.num]) (fun x hx => by
   simp only [List.mem_cons, List.not_mem_nil, or_false] at hx
   rcases hx with rfl | rfl
   ·exact HXS.out
   ·exact HXB.out)).mono ?_
  rintro e' v8 ⟨hb2, raN, rcN, he, hs6⟩
  have he' : e' = .returned (.agg #[.int .i64 5, .int .i64 0, .slice raN 2 rcN]) := he
  subst he'
  have HXN : Hid (SlX v8 (fun i => i < w.heap.size + 2) [S, B] (.slice raN 2 rcN)) := tuck hs6
  have hS1' : (fun w' : World => Below w.heap.size w w' ∧ VarAt w.heap.size 9 t.num (.slice (some ⟨b, o, none⟩) 4 cap) w' ∧ VarAt gN B.kind B.num (.slice p0 B.kids.length q0) w' ∧ VarAt g4 9 0 (.slice ra 4 rc) w') v8 := ⟨bAfter hS1.1 hb2, hS1.2.1.below hb2, hS1.2.2.1.below hb2, hS1.2.2.2.below hb2⟩
  refine hK.out _ _ (ph_one (by kernel_rfl) hS1') ?_
  clear hK K
  try simp only [pts]
  replace HXQ := tuck (HXQ.out.below hb2)
  replace HZ2 := tuck (HZ2.out.below hb2)
  replace HLE := tuck (Nat.le_trans HLE.out hb2.size)
  clear hb2 hs6 he HRB
  clear hS1
  have hS1 := hS1'
  clear hS1'
  clear HXS HXB
  refine AnyTwo.step (i := 10) (o := ⟨some 66, _, _, _, _, _⟩) (by kernel_rfl) rfl (fun K hK => ?_)
  go_simp
  have hb2 := below1 v8 (.cells #[.int .i64 5, .int .i64 0, .slice raN 2 rcN, .int .i64 9, .int .i64 0, .slice ra 4 rc] 25)
  have HRB := tuck (heap_new v8 (.cells #[.int .i64 5, .int .i64 0, .slice raN 2 rcN, .int .i64 9, .int .i64 0, .slice ra 4 rc] 25))
  have hS1' : (fun w' : World => Below w.heap.size w w' ∧ VarAt w.heap.size 9 t.num (.slice (some ⟨b, o, none⟩) 4 cap) w' ∧ VarAt gN B.kind B.num (.slice p0 B.kids.length q0) w' ∧ VarAt g4 9 0 (.slice ra 4 rc) w') (v8.alloc (.cells #[.int .i64 5, .int .i64 0, .slice raN 2 rcN, .int .i64 9, .int .i64 0, .slice ra 4 rc] 25)) := ⟨bAfter hS1.1 hb2, hS1.2.1.below hb2, hS1.2.2.1.below hb2, hS1.2.2.2.below hb2⟩
  refine hK.out _ _ (ph_one (by kernel_rfl) hS1') ?_
  clear hK K
  try simp only [pts]
  replace HXQ := tuck (HXQ.out.below hb2)
  replace HXN := tuck (HXN.out.below hb2)
  replace HZ2 := tuck (HZ2.out.below hb2)
  replace HLE := tuck (Nat.le_trans HLE.out hb2.size)
  clear hb2
  generalize v8.alloc (.cells #[.int .i64 5, .int .i64 0, .slice raN 2 rcN, .int .i64 9, .int .i64 0, .slice ra 4 rc] 25) = v10 at *
  generalize v8.heap.size = gR2 at *
  clear hS1
  have hS1 := hS1'
  clear hS1'
  refine AnyTwo.step (i := 11) (o := ⟨some 67, _, _, _, _, _⟩) (by kernel_rfl) rfl (fun K hK => ?_)
  go_simp
  refine (nodeX_any 5 [(Tm.mk 5 0 [S, B], .slice raN 2 rcN), (Tm.mk 9 0 [P, Z, S, B], .slice ra 4 rc)] _ gR2 2 _ _ (fun i => i < w.heap.size + 2) (fun i hi => Nat.lt_of_lt_of_le hi HLE.out) (by simp) (by simp) HRB.out (by simp [cellsL, Tm.kind, Tm.num]) (fun x hx => by
   simp only [List.mem_cons, List.not_mem_nil, or_false] at hx
   rcases hx with rfl | rfl
   ·exact HXN.out
   ·exact HXQ.out)).mono ?_
  rintro e' v11 ⟨hb2, raT, rcT, he, hs6⟩
  have he' : e' = .returned (.agg #[.int .i64 5, .int .i64 0, .slice raT 2 rcT]) := he
  subst he'
  have HXT : Hid (SlX v11 (fun i => i < w.heap.size + 2) [Tm.mk 5 0 [S, B], Tm.mk 9 0 [P, Z, S, B]] (.slice raT 2 rcT)) := tuck hs6
  have hS1' : (fun w' : World => Below w.heap.size w w' ∧ VarAt w.heap.size 9 t.num (.slice (some ⟨b, o, none⟩) 4 cap) w' ∧ VarAt gN B.kind B.num (.slice p0 B.kids.length q0) w' ∧ VarAt g4 9 0 (.slice ra 4 rc) w') v11 := ⟨bAfter hS1.1 hb2, hS1.2.1.below hb2, hS1.2.2.1.below hb2, hS1.2.2.2.below hb2⟩
  refine hK.out _ _ (ph_one (by kernel_rfl) hS1') ?_
  clear hK K
  try simp only [pts]
  replace HZ2 := tuck (HZ2.out.below hb2)
  replace HLE := tuck (Nat.le_trans HLE.out hb2.size)
  clear hb2 hs6 he HRB
  clear hS1
  have hS1 := hS1'
  clear hS1'
  obtain ⟨z2, r0, r1, r2, rf⟩ := HZ2.out.facts
  have q1 : w.heap.size ≠ w.heap.size + 1 := by omega
  have q2 : gN ≠ w.heap.size + 1 := by have := HGN.out; omega
  have q3 : g4 ≠ w.heap.size + 1 := by have := HG4.out; omega
  have HBE := tuck hS1.1
  refine AnyTwo.step (i := 12) (o := ⟨none, _, _, _, _, _⟩) (by kernel_rfl) rfl (fun K hK => ?_)
  go_simp
  have hS1' : (fun w' : World => Below w.heap.size w w' ∧ VarAt w.heap.size 9 t.num (.slice (some ⟨b, o, none⟩) 4 cap) w' ∧ VarAt gN B.kind B.num (.slice p0 B.kids.length q0) w' ∧ VarAt g4 9 0 (.slice ra 4 rc) w') _ := ⟨bSet3 hS1.1 (Nat.le_succ _) 0 1 2 (.int .i64 5) (.int .i64 0) (.slice raT 2 rcT), hS1.2.1.far3 q1 0 1 2 (.int .i64 5) (.int .i64 0) (.slice raT 2 rcT), hS1.2.2.1.far3 q2 0 1 2 (.int .i64 5) (.int .i64 0) (.slice raT 2 rcT), hS1.2.2.2.far3 q3 0 1 2 (.int .i64 5) (.int .i64 0) (.slice raT 2 rcT)⟩
  refine hK.out _ _ (ph_end (by kernel_rfl) hS1') ?_
  clear hK K
  try simp only [pts]
  refine AnyTwo.done (by kernel_rfl) ?_ _
  go_wp2_with fail
  refine bodyPost_ret (v := .agg #[.int .i64 5, .int .i64 0, .slice raT 2 rcT]) (by simp [results, Tryz.results51, go_sem, *]) rfl (HP.out _ _ ?_ ?_)
  ·exact bSet3 HBE.out (Nat.le_succ _) _ _ _ _ _ _
  ·exact (SlX.from (HXT.out.put (Nat.lt_succ_self _) _ _ _ _ _ _)).mono (Nat.le_add_right _ 2)
end Go.Proofs.YtlbikgnanabjgaaGreat
