/-
  TeleG.
-/
import Derived.Test.YtkjfdhdmkaofeaaB49
import Derived.Test.YtkjfdhdmkaofeaaB50
import Derived.Test.YtkjfdhdmkaofeaaB51
namespace Go.Proofs.Ytkjfdhdmkaofeaa
open Go.RowKit
theorem app_facts {t : Tm} (hv : t.Valid) : (∀ x ∈ (sides 0 1 (runs 5 0 30 t) t).reverse, x.Valid) ∧ (down 0 (runs 5 0 30 t) t).Valid ∧ (sides 0 1 (runs 5 0 30 t) t).reverse.length ≤ 29 := by
 have hkk : ∀ i, i < (runs 5 0 30 t) → (down 0 i t).kind = 5 := fun i hi => runs_kind 5 0 30 t i hi
 refine ⟨fun x hx => sides_valid (k := 5) (by decide) (by decide) (by decide) (runs 5 0 30 t) t hv hkk x (List.mem_reverse.1 hx), (down_valid (by decide) (by decide) (runs 5 0 30 t) t hv hkk).1, ?_⟩
 rw [List.length_reverse, sides_length]
 exact runs_lt (by decide) (by decide) 30 t hv
set_option maxRecDepth 100000 in
set_option maxHeartbeats 3000000 in
theorem splitAppI_any (t : Tm) (w : World) (v : Value) (h : TmIn w 0 t v) : Calls Try.prog 10 #[v] w (TlPost2 w t.Valid ((sides 0 1 (runs 5 0 30 t) t).reverse) ((down 0 (runs 5 0 30 t) t))) := by
 obtain ⟨s, rfl, hs⟩ := h
 obtain ⟨ta, tc, rfl⟩ := hs.form
 have HS := tuck hs
 have HV : Hid (∀ w', SlIn w' 0 t.kids (.slice ta t.kids.length tc) → Calls Try.prog 25 #[.agg #[.int .i64 t.kind, .int .i64 t.num, .slice ta t.kids.length tc]] w' (BoolPost w' (tr t.Valid))) := tuck fun w' h => validI_any t w' _ ⟨_, rfl, h⟩
 have hb2 := below2 w (.cells #[.int .i64 t.kind, .int .i64 t.num, .slice ta t.kids.length tc] 25) (.cells #[.int .i64 0, .int .i64 0, .slice none 0 0] 25)
 have HV0 := tuck ((VarAt.new w t.kind t.num (.slice ta t.kids.length tc)).below (below1 _ (.cells #[.int .i64 0, .int .i64 0, .slice none 0 0] 25)))
 have HV1 := tuck (var_new1 w (.cells #[.int .i64 t.kind, .int .i64 t.num, .slice ta t.kids.length tc] 25) 0 0 (.slice none 0 0))
 have hz2 : w.heap.size + 2 ≤ ((w.alloc (.cells #[.int .i64 t.kind, .int .i64 t.num, .slice ta t.kids.length tc] 25)).alloc (.cells #[.int .i64 0, .int .i64 0, .slice none 0 0] 25)).heap.size := by simp
 have HB2 := tuck hb2
 have HZ2 := tuck hz2
 have HNO : Hid (¬ t.Valid → ∀ w', Below w.heap.size w w' → TlPost2 w t.Valid ((sides 0 1 (runs 5 0 30 t) t).reverse) ((down 0 (runs 5 0 30 t) t)) (.returned (.tuple #[.agg #[.int .i64 0, .int .i64 0, .slice none 0 0], .slice none 0 0, .bool false])) w') := tuck fun h w' hb => TlPost2.no h hb
 have HYES : Hid (t.Valid → ∀ w' a c b d F G, Below w.heap.size w w' → SlOwn w' ((sides 0 1 (runs 5 0 30 t) t).reverse) (.slice a ((sides 0 1 (runs 5 0 30 t) t).reverse).length c) F → SlOwn w' ((down 0 (runs 5 0 30 t) t)).kids (.slice b ((down 0 (runs 5 0 30 t) t)).kids.length d) G → F.Nodup → G.Nodup → (∀ g ∈ F, g ∉ G) → (∀ g ∈ F, w.heap.size ≤ g ∧ g < w'.heap.size) → (∀ g ∈ G, w.heap.size ≤ g ∧ g < w'.heap.size) → TlPost2 w t.Valid ((sides 0 1 (runs 5 0 30 t) t).reverse) ((down 0 (runs 5 0 30 t) t)) (.returned (.tuple #[.agg #[.int .i64 ((down 0 (runs 5 0 30 t) t)).kind, .int .i64 ((down 0 (runs 5 0 30 t) t)).num, .slice b ((down 0 (runs 5 0 30 t) t)).kids.length d], .slice a ((sides 0 1 (runs 5 0 30 t) t).reverse).length c, .bool true])) w') := tuck fun h w' a c b d F G h1 h2 h3 h4 h5 h6 h7 h8 => TlPost2.yes h h1 h2 h3 h4 h5 h6 h7 h8
 generalize hpost : TlPost2 w t.Valid ((sides 0 1 (runs 5 0 30 t) t).reverse) ((down 0 (runs 5 0 30 t) t)) = post at *
 clear hpost hb2 hz2 hs
 go_enter Try.func10, Try.ntmps10
 obtain ⟨z0, a0, a1, a2, -⟩ := HV0.out.facts
 go_wp2_with fail
 generalize ((w.alloc (.cells #[.int .i64 t.kind, .int .i64 t.num, .slice ta t.kids.length tc] 25)).alloc (.cells #[.int .i64 0, .int .i64 0, .slice none 0 0] 25)) = W0 at *
 refine (HV.out _ (HS.out.below HB2.out)).mono ?_
 rintro e w1 ⟨rfl, hb1⟩
 have HVT := tuck (HV0.out.below hb1)
 have HVR := tuck (HV1.out.below hb1)
 have HB := tuck (bAfter HB2.out hb1)
 have HZ := tuck (Nat.le_trans HZ2.out hb1.size)
 clear hb1 HV0 HV1 HB2 HV z0 a0 a1 a2 HZ2
 obtain ⟨z0, a0, a1, a2, -⟩ := HVT.out.facts
 by_cases hv : t.Valid
 rotate_left
 ·rw [tr_not hv]
  have HN := tuck (HNO.out hv)
  obtain ⟨z1, r0, r1, r2, rf⟩ := HVR.out.facts
  go_wp2_with fail
  refine bodyPost_ret (v := .tuple #[.agg #[.int .i64 0, .int .i64 0, .slice none 0 0], .slice none 0 0, .bool false]) (by simp [results, Try.results10, go_sem, *]) rfl (HN.out _ ?_)
  first | exact bSet3 HB.out (Nat.le_succ _) _ _ _ _ _ _ | exact HB.out
 rw [tr_of hv]
 have hu := unfL_any 5 (by decide) t hv w1 _ (HS.out.below HB.out)
 have haf := app_facts hv
 have HVV : Hid ((∀ x ∈ (sides 0 1 (runs 5 0 30 t) t).reverse, sizes x.kids ≤ 1000000) ∧ sizes ((down 0 (runs 5 0 30 t) t)).kids ≤ 1000000 ∧ ((sides 0 1 (runs 5 0 30 t) t).reverse).length ≤ 29) := tuck ⟨fun x hx => by have := (valid_bounds (haf.1 x hx)).1; omega, by have := (valid_bounds haf.2.1).1; omega, haf.2.2⟩
 have HY := tuck (HYES.out hv)
 have HLE : Hid (((sides 0 1 (runs 5 0 30 t) t).reverse).length = (runs 5 0 30 t)) := tuck (by rw [List.length_reverse, sides_length])
 have HU := tuck hu
 unfold UnfL at HU
 clear hu hv haf HYES HNO
 generalize ((sides 0 1 (runs 5 0 30 t) t).reverse) = L at *
 generalize ((down 0 (runs 5 0 30 t) t)) = T at *
 generalize (runs 5 0 30 t) = m at *
 rw [HLE.out] at HY HVV
 go_wp2_with fail
 refine HU.out.mono ?_
 rintro e w2 ⟨hb2, la, lc, ra, rc, rfl, hsl, hsT⟩
 have hbx := below1 w2 (.cells #[.int .i64 T.kind, .int .i64 T.num, .slice ra T.kids.length rc] 25)
 have HVR4 := tuck ((HVR.out.below hb2).below hbx)
 have HB4 := tuck (bAfter (bAfter HB.out hb2) hbx)
 have HV8 := tuck (VarAt.new w2 T.kind T.num (.slice ra T.kids.length rc))
 have HSL4 := tuck (hsl.below hbx)
 have HST4 := tuck (hsT.below hbx)
 have hz4 : w2.heap.size < (w2.alloc (.cells #[.int .i64 T.kind, .int .i64 T.num, .slice ra T.kids.length rc] 25)).heap.size := by simp
 have HZ4 : Hid (w.heap.size + 2 ≤ (w2.alloc (.cells #[.int .i64 T.kind, .int .i64 T.num, .slice ra T.kids.length rc] 25)).heap.size) := tuck (by have := hb2.size; have := HZ.out; have := hbx.size; omega)
 clear hbx hb2 hsl hsT HU z0 a0 a1 a2 HVT HVR
 go_wp2_with fail
 generalize w2.alloc (.cells #[.int .i64 T.kind, .int .i64 T.num, .slice ra T.kids.length rc] 25) = W4 at *
 generalize w2.heap.size = g8 at *
 have hct := cloneI_any T.kids T.kind T.num W4 _ HVV.out.2.1 HST4.out
 rw [Tm.eta] at hct
 have HCT := tuck hct
 clear hct
 have HCL : Hid (∀ w', Below W4.heap.size W4 w' → Calls Try.prog 30 #[.slice la m lc] w' fun e w'' => Below w'.heap.size w' w'' ∧ ∃ (a : Option Addr) (c : Nat) (F : List Nat), e = .returned (.slice a m c) ∧ SlOwn w'' L (.slice a m c) F ∧ F.Nodup ∧ ∀ g ∈ F, w'.heap.size ≤ g ∧ g < w''.heap.size) := tuck fun w' h => (cloneL_any L HVV.out.1 (by have := HLE.out; have := HVV.out.2.2; omega) w' _ (HSL4.out.below h)).mono fun e w'' h => by
  unfold TlMade at h
  rwa [HLE.out] at h
 refine HCT.out.mono ?_
 rintro e w5 ⟨hb5, v5, rfl, s5, G, rfl, hs5, hn5, hG5⟩
 obtain ⟨qa, qc, rfl⟩ := hs5.form
 have HVR5 := tuck (HVR4.out.below hb5)
 have HB5 := tuck (bAfter HB4.out hb5)
 have HC5 := tuck (HCL.out _ hb5)
 have HS5 := tuck hs5
 have HN5 := tuck hn5
 have HG5 := tuck hG5
 have HZ5 := tuck hb5.size
 clear hs5 hn5 hG5 hb5 HCT HCL
 go_wp2_with fail
 refine HC5.out.mono ?_
 rintro e w6 ⟨hb6, pa, pc, F, rfl, hs6, hn6, hF6⟩
 obtain ⟨zr, q0, q1, q2, qf⟩ := (HVR5.out.below hb6).facts
 go_wp2_with fail
 refine bodyPost_ret (v := .tuple #[.agg #[.int .i64 T.kind, .int .i64 T.num, .slice qa T.kids.length qc], .slice pa m pc, .bool true]) (by simp [results, Try.results10, go_sem, *]) rfl (HY.out _ _ _ _ _ F G ?_ ?_ ?_ hn6 HN5.out ?_ ?_ ?_)
 ·exact bSet3 (bAfter HB5.out hb6) (Nat.le_succ _) _ _ _ _ _ _
 ·exact hs6.set3 (fun h => by have h1 := (hF6 _ h).1; have := HZ4.out; have := HZ5.out; omega) _ _ _ _ _ _
 ·exact (HS5.out.below (fun g hg => (HG5.out g hg).2) hb6).set3 (fun h => by have h1 := (HG5.out _ h).1; have := HZ4.out; omega) _ _ _ _ _ _
 ·intro g h1 h2
  have e1 := (hF6 g h1).1
  have e2 := (HG5.out g h2).2
  omega
 ·intro g h1
  have e1 := hF6 g h1
  have := HZ4.out
  have := HZ5.out
  rw [size_set3]
  omega
 ·intro g h1
  have e1 := HG5.out g h1
  have h3 := hb6.size
  have := HZ4.out
  rw [size_set3]
  omega
end Go.Proofs.Ytkjfdhdmkaofeaa
