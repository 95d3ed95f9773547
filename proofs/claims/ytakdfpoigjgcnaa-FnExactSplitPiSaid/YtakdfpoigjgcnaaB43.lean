/-
  TeleF.
-/
import Derived.Test.YtakdfpoigjgcnaaB19
import Derived.Test.YtakdfpoigjgcnaaB37
import Derived.Test.YtakdfpoigjgcnaaB39
import Derived.Test.YtakdfpoigjgcnaaB42
import Derived.Deep.DeepCutAuto
namespace Go.Proofs.Ytakdfpoigjgcnaa
open Go.RowKit
set_option maxRecDepth 100000 in
set_option maxHeartbeats 3000000 in
theorem splitPiI_any (t : Tm) (n : Int) (w : World) (v : Value) (h : TmIn w 0 t v) : Calls Try.prog 24 #[v, .int .i64 n] w (LtPost w (SplitOk t n) (sides 1 0 n.toNat t) (down 1 n.toNat t)) := by
 obtain ⟨s, rfl, hs⟩ := h
 obtain ⟨ta, tc, rfl⟩ := hs.form
 have HS := tuck hs
 have HV : Hid (∀ w', SlIn w' 0 t.kids (.slice ta t.kids.length tc) → Calls Try.prog 40 #[.agg #[.int .i64 t.kind, .int .i64 t.num, .slice ta t.kids.length tc]] w' (BoolPost w' (tr t.Valid))) := tuck fun w' h => validI_any t w' _ ⟨_, rfl, h⟩
 have hb2 := below2 w (.cells #[.int .i64 t.kind, .int .i64 t.num, .slice ta t.kids.length tc] 29) (.cells #[.int .i64 0, .int .i64 0, .slice none 0 0] 29)
 have HV0 := tuck ((VarAt.new w t.kind t.num (.slice ta t.kids.length tc)).below (below1 _ (.cells #[.int .i64 0, .int .i64 0, .slice none 0 0] 29)))
 have HV1 := tuck (var_new1 w (.cells #[.int .i64 t.kind, .int .i64 t.num, .slice ta t.kids.length tc] 29) 0 0 (.slice none 0 0))
 have hz2 : w.heap.size + 2 ≤ ((w.alloc (.cells #[.int .i64 t.kind, .int .i64 t.num, .slice ta t.kids.length tc] 29)).alloc (.cells #[.int .i64 0, .int .i64 0, .slice none 0 0] 29)).heap.size := by simp
 have HB2 := tuck hb2
 have HZ2 := tuck hz2
 have HNO : Hid (¬ SplitOk t n → ∀ w', Below w.heap.size w w' → LtPost w (SplitOk t n) (sides 1 0 n.toNat t) (down 1 n.toNat t) (.returned (.tuple #[.slice none 0 0, .agg #[.int .i64 0, .int .i64 0, .slice none 0 0], .bool false])) w') := tuck fun h w' hb => LtPost.no h hb
 have HYES : Hid (SplitOk t n → ∀ w' a c b d F G, Below w.heap.size w w' → SlOwn w' (sides 1 0 n.toNat t) (.slice a n.toNat c) F → SlOwn w' (down 1 n.toNat t).kids (.slice b (down 1 n.toNat t).kids.length d) G → F.Nodup → G.Nodup → (∀ g ∈ F, g ∉ G) → (∀ g ∈ F, w.heap.size ≤ g ∧ g < w'.heap.size) → (∀ g ∈ G, w.heap.size ≤ g ∧ g < w'.heap.size) → LtPost w (SplitOk t n) (sides 1 0 n.toNat t) (down 1 n.toNat t) (.returned (.tuple #[.slice a n.toNat c, .agg #[.int .i64 (down 1 n.toNat t).kind, .int .i64 (down 1 n.toNat t).num, .slice b (down 1 n.toNat t).kids.length d], .bool true])) w') := tuck fun h w' a c b d F G h1 h2 h3 h4 h5 h6 h7 h8 => by
  have := LtPost.yes (l := sides 1 0 n.toNat t) (T := down 1 n.toNat t) (a := a) (c := c) (b := b) (d := d) h h1 (by rw [sides_length]; exact h2) h3 h4 h5 h6 h7 h8
  rwa [sides_length] at this
 generalize hpost : LtPost w (SplitOk t n) (sides 1 0 n.toNat t) (down 1 n.toNat t) = post at *
 clear hpost hb2 hz2 hs
 go_enter Try.func24, Try.ntmps24
 by_cases hn0 : n < 0
 ·have HN := tuck (HNO.out fun h => by have := h.1; omega)
  obtain ⟨z1, r0, r1, r2, rf⟩ := HV1.out.facts
  go_wp2_with fail
  refine bodyPost_ret (v := .tuple #[.slice none 0 0, .agg #[.int .i64 0, .int .i64 0, .slice none 0 0], .bool false]) (by simp [results, Try.results24, go_sem, *]) rfl (HN.out _ ?_)
  first | exact bSet3 HB2.out (Nat.le_succ _) _ _ _ _ _ _ | exact HB2.out
 by_cases hn8 : 8 < n
 ·have HN := tuck (HNO.out fun h => by have := h.2.1; omega)
  obtain ⟨z1, r0, r1, r2, rf⟩ := HV1.out.facts
  go_wp2_with fail
  refine bodyPost_ret (v := .tuple #[.slice none 0 0, .agg #[.int .i64 0, .int .i64 0, .slice none 0 0], .bool false]) (by simp [results, Try.results24, go_sem, *]) rfl (HN.out _ ?_)
  first | exact bSet3 HB2.out (Nat.le_succ _) _ _ _ _ _ _ | exact HB2.out
 obtain ⟨m, hm⟩ : ∃ m : Nat, n = (m : Int) := ⟨n.toNat, by omega⟩
 subst hm
 have hm8 : m ≤ 8 := by omega
 rw [Int.toNat_natCast] at HYES
 obtain ⟨z0, a0, a1, a2, -⟩ := HV0.out.facts
 go_wp2_with fail
 generalize ((w.alloc (.cells #[.int .i64 t.kind, .int .i64 t.num, .slice ta t.kids.length tc] 29)).alloc (.cells #[.int .i64 0, .int .i64 0, .slice none 0 0] 29)) = W0 at *
 refine (HV.out _ (HS.out.below HB2.out)).mono ?_
 rintro e w1 ⟨rfl, hb1⟩
 have HVT := tuck (HV0.out.below hb1)
 have HVR := tuck (HV1.out.below hb1)
 have HB := tuck (bAfter HB2.out hb1)
 have HZ := tuck (Nat.le_trans HZ2.out hb1.size)
 clear hb1 HV0 HV1 HB2 HV z0 a0 a1 a2 HZ2
 obtain ⟨z0, a0, a1, a2, -⟩ := HVT.out.facts
 by_cases hv : t.Valid
 rotate_left
 ·rw [tr_not hv]
  have HN := tuck (HNO.out fun h => hv h.2.2.1)
  obtain ⟨z1, r0, r1, r2, rf⟩ := HVR.out.facts
  go_wp2_with fail
  refine bodyPost_ret (v := .tuple #[.slice none 0 0, .agg #[.int .i64 0, .int .i64 0, .slice none 0 0], .bool false]) (by simp [results, Try.results24, go_sem, *]) rfl (HN.out _ ?_)
  first | exact bSet3 HB.out (Nat.le_succ _) _ _ _ _ _ _ | exact HB.out
 rw [tr_of hv]
 have hu := unfR_any 3 (by decide) m (by omega) t hv w1 _ (HS.out.below HB.out)
 have hmin := runs_min 3 1 m 30 t (by omega)
 have HSO : Hid (SplitOk t (m : Int) ↔ runs 3 1 m t = m) := tuck ⟨fun h => by have := h.2.2.2; omega, fun h => ⟨by omega, by omega, hv, by omega⟩⟩
 have HVS : Hid (runs 3 1 m t = m → (∀ x ∈ sides 1 0 m t, sizes x.kids ≤ 1000000) ∧ sizes (down 1 m t).kids ≤ 1000000) := tuck fun h => by
  have hkk : ∀ i, i < m → (down 1 i t).kind = 3 := fun i hi => runs_kind 3 1 m t i (by omega)
  exact ⟨sides_sizes (by decide) (by decide) (by decide) hv hkk, by have := (valid_bounds (down_valid (by decide) (by decide) m t hv hkk).1).1; omega⟩
 have HRL : Hid (runs 3 1 m t ≤ m) := tuck (runs_le 3 1 m t)
 have HU := tuck hu
 unfold UnfR at HU
 clear hu hv hmin
 by_cases hj : runs 3 1 m t = m
 rotate_left
 ·have hjm : ((runs 3 1 m t : Nat) : Int) < (m : Int) := by have := HRL.out; omega
  have HN := tuck (HNO.out fun h => hj (HSO.out.1 h))
  clear HYES HSO HVS HRL hj
  generalize runs 3 1 m t = j at *
  generalize down 1 j t = T at *
  generalize sides 1 0 j t = L at *
  go_wp2_with fail
  refine HU.out.mono ?_
  rintro e w2 ⟨hb2, la, lc, ra, rc, rfl, -, -⟩
  have HB2 := tuck (bAfter HB.out hb2)
  have HV2 := tuck (HVR.out.below hb2)
  clear hb2 HU z0 a0 a1 a2
  obtain ⟨z1, r0, r1, r2, rf⟩ := (HV2.out.below (below1 _ (.cells #[.int .i64 T.kind, .int .i64 T.num, .slice ra T.kids.length rc] 29))).facts
  have HB3 := tuck (bAfter HB2.out (below1 _ (.cells #[.int .i64 T.kind, .int .i64 T.num, .slice ra T.kids.length rc] 29)))
  go_wp2_with fail
  refine bodyPost_ret (v := .tuple #[.slice none 0 0, .agg #[.int .i64 0, .int .i64 0, .slice none 0 0], .bool false]) (by simp [results, Try.results24, go_sem, *]) rfl (HN.out _ ?_)
  first | exact bSet3 HB3.out (Nat.le_succ _) _ _ _ _ _ _ | exact HB3.out
 have hjm : ¬ ((m : Int) < (m : Int)) := by omega
 rw [hj] at HU
 have HY := tuck (HYES.out (HSO.out.2 hj))
 have HVV := tuck (HVS.out hj)
 have HSL : Hid ((sides 1 0 m t).length = m) := tuck (sides_length 1 0 m t)
 clear HYES HSO HVS HRL hj HNO
 generalize down 1 m t = T at *
 generalize sides 1 0 m t = L at *
 go_wp2_with fail
 refine HU.out.mono ?_
 rintro e w2 ⟨hb2, la, lc, ra, rc, rfl, hsl, hsT⟩
 have hbx := below1 w2 (.cells #[.int .i64 T.kind, .int .i64 T.num, .slice ra T.kids.length rc] 29)
 have HVR4 := tuck ((HVR.out.below hb2).below hbx)
 have HB4 := tuck (bAfter (bAfter HB.out hb2) hbx)
 have HV8 := tuck (VarAt.new w2 T.kind T.num (.slice ra T.kids.length rc))
 have HSL4 := tuck (hsl.below hbx)
 have HST4 := tuck (hsT.below hbx)
 have HNE : Hid (w2.heap.size ≠ w.heap.size + 1) := tuck (by have := hb2.size; have := HZ.out; omega)
 have hz4 : w2.heap.size < (w2.alloc (.cells #[.int .i64 T.kind, .int .i64 T.num, .slice ra T.kids.length rc] 29)).heap.size := by simp
 have HZ4 : Hid (w.heap.size + 2 ≤ w2.heap.size) := tuck (by have := hb2.size; have := HZ.out; omega)
 clear hbx hb2 hsl hsT HU z0 a0 a1 a2 HVT HVR
 go_wp2_with fail
 generalize w2.alloc (.cells #[.int .i64 T.kind, .int .i64 T.num, .slice ra T.kids.length rc] 29) = W4 at *
 generalize w2.heap.size = g8 at *
 obtain ⟨z1, r0, r1, r2, rf⟩ := HVR4.out.facts
 have HCL : Hid (∀ w', Below W4.heap.size W4 w' → Calls Try.prog 42 #[.slice la m lc] w' fun e w'' => Below w'.heap.size w' w'' ∧ ∃ (a : Option Addr) (c : Nat) (F : List Nat), e = .returned (.slice a m c) ∧ SlOwn w'' L (.slice a m c) F ∧ F.Nodup ∧ ∀ g ∈ F, w'.heap.size ≤ g ∧ g < w''.heap.size) := tuck fun w' h => (cloneL_any L HVV.out.1 (by have := HSL.out; omega) w' _ (HSL4.out.below h)).mono fun e w'' h => by
  unfold TlMade at h
  rwa [HSL.out] at h
 have HCT : Hid (∀ w', Below W4.heap.size W4 w' → Calls Try.prog 43 #[.agg #[.int .i64 T.kind, .int .i64 T.num, .slice ra T.kids.length rc]] w' (MadePost w' T)) := tuck fun w' h => by
  have := cloneI_any T.kids T.kind T.num w' _ HVV.out.2 (HST4.out.below h)
  rwa [Tm.eta] at this
 have HOLD : Hid (∀ w', Below w.heap.size w w' → VarAt g8 T.kind T.num (.slice ra T.kids.length rc) w' → (fun w' : World => Below w.heap.size w w' ∧ g8 < w'.heap.size ∧ w'.cell? ⟨g8, 0, none⟩ = some (.int .i64 T.kind) ∧ w'.cell? ⟨g8, 1, none⟩ = some (.int .i64 T.num) ∧ w'.cell? ⟨g8, 2, none⟩ = some (.slice ra T.kids.length rc)) w') := tuck fun w' h1 h2 => ⟨h1, h2.facts.1, h2.facts.2.1, h2.facts.2.2.1, h2.facts.2.2.2.1⟩
 have HZ5 : Hid (w.heap.size + 2 ≤ W4.heap.size) := tuck (by omega)
 clear z1 r0 r1 r2 rf
 go_upto_region 6 with fail
 refine AnyTwo.begin (fun w' : World => Below w.heap.size w w' ∧ g8 < w'.heap.size ∧ w'.cell? ⟨g8, 0, none⟩ = some (.int .i64 T.kind) ∧ w'.cell? ⟨g8, 1, none⟩ = some (.int .i64 T.num) ∧ w'.cell? ⟨g8, 2, none⟩ = some (.slice ra T.kids.length rc)) (fun _ => True) 6 (by kernel_rfl) ?_
 have hS1 : (fun w' : World => Below w.heap.size w w' ∧ g8 < w'.heap.size ∧ w'.cell? ⟨g8, 0, none⟩ = some (.int .i64 T.kind) ∧ w'.cell? ⟨g8, 1, none⟩ = some (.int .i64 T.num) ∧ w'.cell? ⟨g8, 2, none⟩ = some (.slice ra T.kids.length rc)) _ := HOLD.out _ HB4.out.drew (HV8.out.below (Below.refl _ _).drew)
 refine AnyTwo.take (i := 0) (oi := ⟨some 32, _, _, _, _, _⟩) (v := ?vr0) rfl (by kernel_rfl) (by kernel_rfl) (by decide +kernel) (by kernel_rfl) (by rfl) (by kernel_rfl) (fun _ _ _ h => h) (Or.inl ⟨by rfl, ?yr0⟩) hS1 ?rr0
 case yr0 => (intro w hSw; (try dsimp only at hSw); go_simp; try (with_reducible rfl))
 try simp only [Act.put, List.setIfInBounds_toArray, List.set_cons_zero, List.set_cons_succ]
 refine AnyTwo.take (i := 2) (oi := ⟨some 34, _, _, _, _, _⟩) (v := ?vr2) rfl (by kernel_rfl) (by kernel_rfl) (by decide +kernel) (by kernel_rfl) (by rfl) (by kernel_rfl) (fun _ _ _ h => h) (Or.inl ⟨by rfl, ?yr2⟩) hS1 ?rr2
 case yr2 => (intro w hSw; (try dsimp only at hSw); go_simp; try (with_reducible rfl))
 try simp only [Act.put, List.setIfInBounds_toArray, List.set_cons_zero, List.set_cons_succ]
 refine AnyTwo.step (i := 1) (o := ⟨some 33, _, _, _, _, _⟩) (by kernel_rfl) rfl (fun K hK => ?_)
 go_simp
 refine (HCL.out _ (Below.refl _ _).drew).mono ?_
 rintro e w5 ⟨hb5, pa, pc, F, rfl, hs5, hn5, hF5⟩
 have hb5' := bAfter (Below.refl W4.heap.size W4).drew hb5
 have hS1' : (fun w' : World => Below w.heap.size w w' ∧ g8 < w'.heap.size ∧ w'.cell? ⟨g8, 0, none⟩ = some (.int .i64 T.kind) ∧ w'.cell? ⟨g8, 1, none⟩ = some (.int .i64 T.num) ∧ w'.cell? ⟨g8, 2, none⟩ = some (.slice ra T.kids.length rc)) _ := HOLD.out _ (bAfter hS1.1 hb5) (HV8.out.below hb5')
 refine hK.out _ _ (ph_one (by kernel_rfl) hS1') ?_
 clear hK K hS1
 have hS1 := hS1'
 clear hS1'
 try simp only [Act.put, List.setIfInBounds_toArray, List.set_cons_zero, List.set_cons_succ]
 refine AnyTwo.step (i := 3) (o := ⟨some 35, _, _, _, _, _⟩) (by kernel_rfl) rfl (fun K hK => ?_)
 go_simp
 replace HV8 := tuck (HV8.out.below hb5')
 refine (HCT.out _ (bAfter (Below.refl _ _).drew hb5)).mono ?_
 rintro e w6 ⟨hb6, v6, rfl, s6, G, rfl, hs6, hn6, hG6⟩
 obtain ⟨qa, qc, rfl⟩ := hs6.form
 obtain ⟨zr, q0, q1, q2, qf⟩ := ((HVR4.out.below hb5').below hb6).facts
 have hS1' : (fun w' : World => Below w.heap.size w w' ∧ g8 < w'.heap.size ∧ w'.cell? ⟨g8, 0, none⟩ = some (.int .i64 T.kind) ∧ w'.cell? ⟨g8, 1, none⟩ = some (.int .i64 T.num) ∧ w'.cell? ⟨g8, 2, none⟩ = some (.slice ra T.kids.length rc)) _ := HOLD.out _ (bAfter hS1.1 hb6) (HV8.out.below hb6)
 refine hK.out _ _ (ph_one (by kernel_rfl) hS1') ?_
 clear hK K hS1
 have hS1 := hS1'
 clear hS1'
 try simp only [Act.put, List.setIfInBounds_toArray, List.set_cons_zero, List.set_cons_succ]
 refine AnyTwo.step (i := 4) (o := ⟨some 4, _, _, _, _, _⟩) (by kernel_rfl) rfl (fun K hK => ?_)
 go_simp
 have hS1' : (fun w' : World => Below w.heap.size w w' ∧ g8 < w'.heap.size ∧ w'.cell? ⟨g8, 0, none⟩ = some (.int .i64 T.kind) ∧ w'.cell? ⟨g8, 1, none⟩ = some (.int .i64 T.num) ∧ w'.cell? ⟨g8, 2, none⟩ = some (.slice ra T.kids.length rc)) _ := hS1
 refine hK.out _ _ (ph_one (by kernel_rfl) hS1') ?_
 clear hK K hS1
 have hS1 := hS1'
 clear hS1'
 try simp only [Act.put, List.setIfInBounds_toArray, List.set_cons_zero, List.set_cons_succ]
 refine AnyTwo.step (i := 5) (o := ⟨none, _, _, _, _, _⟩) (by kernel_rfl) rfl (fun K hK => ?_)
 go_simp
 have hS1' : (fun w' : World => Below w.heap.size w w' ∧ g8 < w'.heap.size ∧ w'.cell? ⟨g8, 0, none⟩ = some (.int .i64 T.kind) ∧ w'.cell? ⟨g8, 1, none⟩ = some (.int .i64 T.num) ∧ w'.cell? ⟨g8, 2, none⟩ = some (.slice ra T.kids.length rc)) _ := HOLD.out _ (bSet3 hS1.1 (Nat.le_succ _) 0 1 2 (.int .i64 T.kind) (.int .i64 T.num) (.slice qa T.kids.length qc)) ((HV8.out.below hb6).far3 HNE.out 0 1 2 (.int .i64 T.kind) (.int .i64 T.num) (.slice qa T.kids.length qc))
 refine hK.out _ _ (ph_one (by kernel_rfl) hS1') ?_
 clear hK K hS1
 have hS1 := hS1'
 clear hS1'
 try simp only [Act.put, List.setIfInBounds_toArray, List.set_cons_zero, List.set_cons_succ]
 refine AnyTwo.step (i := 6) (o := ⟨some 6, _, _, _, _, _⟩) (by kernel_rfl) rfl (fun K hK => ?_)
 go_simp
 refine hK.out _ _ (ph_end (by kernel_rfl) trivial) ?_
 clear hK K
 try simp only [Act.put, List.setIfInBounds_toArray, List.set_cons_zero, List.set_cons_succ]
 refine AnyTwo.done (by kernel_rfl) ?_ _
 go_wp2_with fail
 refine bodyPost_ret (v := .tuple #[.slice pa m pc, .agg #[.int .i64 T.kind, .int .i64 T.num, .slice qa T.kids.length qc], .bool true]) (by simp [results, Try.results24, go_sem, *]) rfl (HY.out _ _ _ _ _ F G ?_ ?_ ?_ hn5 hn6 ?_ ?_ ?_)
 ·exact hS1.1
 ·exact (hs5.below (fun g hg => (hF5 g hg).2) hb6).set3 (fun h => by have h1 := (hF5 _ h).1; have h2 : W4.drew.heap.size = W4.heap.size := rfl; have := HZ5.out; omega) _ _ _ _ _ _
 ·exact hs6.set3 (fun h => by have h1 := (hG6 _ h).1; have h2 : W4.drew.heap.size = W4.heap.size := rfl; have h3 := hb5.size; have := HZ5.out; omega) _ _ _ _ _ _
 ·intro g h1 h2
  have e1 := (hF5 g h1).2
  have e2 := (hG6 g h2).1
  omega
 ·intro g h1
  have e1 := hF5 g h1
  have h2 : W4.drew.heap.size = W4.heap.size := rfl
  have h3 := hb6.size
  have := HZ5.out
  rw [size_set3]
  omega
 ·intro g h1
  have e1 := hG6 g h1
  have h2 : W4.drew.heap.size = W4.heap.size := rfl
  have h3 := hb5.size
  have := HZ5.out
  rw [size_set3]
  omega
end Go.Proofs.Ytakdfpoigjgcnaa
