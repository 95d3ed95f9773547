/-
  TeleD.
-/
import Derived.Test.YtakdfpoigjgcnaaB05
import Derived.Test.YtakdfpoigjgcnaaB39
namespace Go.Proofs.Ytakdfpoigjgcnaa
open Go.RowKit
noncomputable def cntPi (t : Tm) : Int := @ite _ t.Valid (Classical.propDecidable _) (runs 3 1 30 t : Int) 0
theorem cntPi_yes {t : Tm} (h : t.Valid) : cntPi t = (runs 3 1 30 t : Int) := by unfold cntPi; rw [if_pos h]
theorem cntPi_no {t : Tm} (h : ¬ t.Valid) : cntPi t = 0 := by unfold cntPi; rw [if_neg h]
set_option maxRecDepth 100000 in
theorem countPiI_any (t : Tm) (w : World) (v : Value) (h : TmIn w 0 t v) : Calls Try.prog 27 #[v] w fun e w' => e = .returned (.int .i64 (cntPi t)) ∧ Below w.heap.size w w' := by
 obtain ⟨s, rfl, hs⟩ := h
 obtain ⟨ta, tc, rfl⟩ := hs.form
 have HS := tuck hs
 have HV : Hid (∀ w', SlIn w' 0 t.kids (.slice ta t.kids.length tc) → Calls Try.prog 40 #[.agg #[.int .i64 t.kind, .int .i64 t.num, .slice ta t.kids.length tc]] w' (BoolPost w' (tr t.Valid))) := tuck fun w' h => validI_any t w' _ ⟨_, rfl, h⟩
 have hb1 := below1 w (.cells #[.int .i64 t.kind, .int .i64 t.num, .slice ta t.kids.length tc] 29)
 have HB1 := tuck hb1
 have HV0 := tuck (VarAt.new w t.kind t.num (.slice ta t.kids.length tc))
 clear hs hb1
 go_enter Try.func27, Try.ntmps27
 go_wp2_with fail
 generalize w.alloc (.cells #[.int .i64 t.kind, .int .i64 t.num, .slice ta t.kids.length tc] 29) = W0 at *
 refine (HV.out _ (HS.out.below HB1.out)).mono ?_
 rintro e w1 ⟨rfl, hb1⟩
 have HVT := tuck (HV0.out.below hb1)
 have HB := tuck (bAfter HB1.out hb1)
 clear hb1 HV0 HB1 HV
 obtain ⟨z0, a0, a1, a2, -⟩ := HVT.out.facts
 by_cases hv : t.Valid
 rotate_left
 ·rw [tr_not hv]
  have HE := tuck (cntPi_no hv)
  go_wp2_with fail
  go_ret
  exact ⟨ret_int HE.out.symm, HB.out⟩
 rw [tr_of hv]
 have HE := tuck (cntPi_yes hv)
 have hu := unfR_any 3 (by decide) 30 (Nat.le_refl _) t hv w1 _ (HS.out.below HB.out)
 rw [show (((30 : Nat) : Int)) = 30 from rfl] at hu
 have HU := tuck hu
 unfold UnfR at HU
 clear hu hv
 generalize runs 3 1 30 t = n at *
 generalize down 1 n t = T at *
 generalize sides 1 0 n t = L at *
 go_wp2_with fail
 refine HU.out.mono ?_
 rintro e w2 ⟨hb2, la, lc, ra, rc, rfl, -, -⟩
 have HB2 := tuck (bAfter HB.out hb2)
 clear hb2 HU
 go_wp2_with fail
 go_ret
 exact ⟨ret_int HE.out.symm, bAfter HB2.out (below1 _ _)⟩
set_option maxRecDepth 100000 in
set_option maxHeartbeats 1000000 in
theorem countPiS_any (t : Tm) (w : World) (v : Value) (h : TmIn w 0 t v) : Calls Try.prog 26 #[v] w fun e w' => e = .returned (.int .i64 (cntPi t)) ∧ Below w.heap.size w w' := by
 obtain ⟨s, rfl, hs⟩ := h
 obtain ⟨ta, tc, rfl⟩ := hs.form
 have HS0 := tuck hs
 have HB3 := tuck (below1 w (.cells #[.int .i64 t.kind, .int .i64 t.num, .slice ta t.kids.length tc] 29))
 have HV3 := tuck (VarAt.new w t.kind t.num (.slice ta t.kids.length tc))
 clear hs
 go_enter Try.func26, Try.ntmps26
 go_wp2_with fail
 generalize w.alloc (.cells #[.int .i64 t.kind, .int .i64 t.num, .slice ta t.kids.length tc] 29) = W3 at *
 go_loopw [3] (fun c wr => ∃ (j : Nat) (ra : Option Addr) (rc : Nat), j ≤ 30 ∧ (j ≠ 0 → t.Valid) ∧ (∀ i, i < j → (down 1 i t).kind = 3) ∧ c = .int .i64 (j : Int) ∧ Below w.heap.size w wr ∧ VarAt w.heap.size (down 1 j t).kind (down 1 j t).num (.slice ra (down 1 j t).kids.length rc) wr ∧ SlIn w 0 (down 1 j t).kids (.slice ra (down 1 j t).kids.length rc)) (fun c _ => 30 - (intOf c).toNat)
 case atStart => exact ⟨0, ta, tc, Nat.zero_le _, fun h => absurd rfl h, fun i h => absurd h (Nat.not_lt_zero _), rfl, HB3.out, HV3.out, HS0.out⟩
 case round =>
  obtain ⟨j, ra, rc, hj, hjv, hkind, rfl, hb, hg, hsT⟩ := hrel
  have HVT : Hid (Calls Try.prog 35 #[.agg #[.int .i64 (down 1 j t).kind, .int .i64 (down 1 j t).num, .slice ra (down 1 j t).kids.length rc]] wr (BoolPost wr (tr (down 1 j t).Valid))) := tuck (validS_any (down 1 j t) wr _ ⟨_, rfl, hsT.below hb⟩)
  have HB := tuck hb
  have HGV := tuck hg
  have HST := tuck hsT
  have HKIND := tuck hkind
  clear hb hg hsT hkind HB3 HV3 HS0
  by_cases hv : t.Valid
  rotate_left
  ·have hj0 : j = 0 := Decidable.byContradiction fun h => hv (hjv h)
   subst hj0
   have hnv : ¬ (down 1 0 t).Valid := hv
   rw [tr_not hnv] at HVT
   have HE := tuck (cntPi_no hv)
   generalize down 1 0 t = T at *
   obtain ⟨z1, r0, r1, r2, rf⟩ := HGV.out.facts
   go_wp2_with fail
   refine HVT.out.mono ?_
   rintro e w2 ⟨rfl, hb2⟩
   have HB2 := tuck (bAfter HB.out hb2)
   clear hb2
   go_wp2_with fail
   go_ret
   exact ⟨ret_int HE.out.symm, HB2.out⟩
  have hdv := down_valid (o := 1) (show arity 3 = 2 by decide) (by decide) j t hv HKIND.out
  have hj29 : j ≤ 29 := by
   have h1 := hdv.2
   have h2 := hgt_pos (down 1 j t)
   have h3 := hv.2.1
   omega
  rw [tr_of hdv.1] at HVT
  have HDOWN := tuck (down_succ 1 j t)
  have HTV := tuck hv
  have HE := tuck (cntPi_yes hv)
  by_cases hkd : (down 1 j t).kind = 3
  rotate_left
  ·have hne : ((down 1 j t).kind == 3) = false := by simpa using hkd
   have HR : Hid (runs 3 1 30 t = j) := tuck (runs_of 3 1 30 j t (by omega) HKIND.out (Or.inr hkd))
   generalize down 1 j t = T at *
   obtain ⟨z1, r0, r1, r2, rf⟩ := HGV.out.facts
   clear hkd hdv hv hjv
   go_wp2_with fail
   refine HVT.out.mono ?_
   rintro e w2 ⟨rfl, hb2⟩
   have HB2 := tuck (bAfter HB.out hb2)
   have hg2 := HGV.out.below hb2
   clear hb2 z1 r0 r1 r2 rf
   obtain ⟨z1, r0, r1, r2, rf⟩ := hg2.facts
   clear hg2
   go_wp2_with fail
   go_ret
   exact ⟨ret_int (by rw [HE.out, HR.out]), HB2.out⟩
  have h2 := kid2_len hdv.1 hkd (by decide)
  have hkq : ((down 1 j t).kind == 3) = true := by simpa using hkd
  have hk0 : kidT (down 1 j t) 1 = (down 1 j t).kids[1]'(by omega) := kidT_eq (by omega)
  obtain ⟨a', c', b, ofs, hsl, -, hp', hc'⟩ := HST.out.open
  obtain ⟨rfl, -, hbw⟩ := hp' (by intro e; rw [e] at h2; simp at h2)
  obtain ⟨s1, c10, c11, c12, hs1⟩ := hc' 1 (by omega)
  obtain ⟨xa, xc, rfl⟩ := hs1.form
  simp only [Value.slice.injEq, true_and] at hsl
  obtain ⟨rfl, rfl⟩ := hsl
  have HDN := tuck (HDOWN.out.trans hk0)
  have HC6 : Hid (∀ w', Below w.heap.size w w' → w'.cell? ⟨b, ofs + 3, none⟩ = some (.int .i64 (((down 1 j t).kids[1]'(by omega)).kind)) ∧ w'.cell? ⟨b, ofs + 4, none⟩ = some (.int .i64 (((down 1 j t).kids[1]'(by omega)).num)) ∧ w'.cell? ⟨b, ofs + 5, none⟩ = some (.slice xa (((down 1 j t).kids[1]'(by omega)).kids.length) xc)) := tuck fun w' h =>
   ⟨(h.cell (p := ⟨b, ofs + 3, none⟩) hbw).trans (by simpa using c10), (h.cell (p := ⟨b, ofs + 4, none⟩) hbw).trans (by simpa using c11), (h.cell (p := ⟨b, ofs + 5, none⟩) hbw).trans (by simpa using c12)⟩
  have HSN := tuck hs1
  have HT0 : Hid ((down 1 j t).kids.length = 2) := tuck h2
  have HKJ : Hid (∀ i, i < j + 1 → (down 1 i t).kind = 3) := tuck fun i hi => by
   by_cases e : i = j
   ·subst e; exact hkd
   ·exact HKIND.out i (by omega)
  clear hs1 hp' hc' HST hk0 HDOWN c10 c11 c12
  generalize (down 1 j t).kids[1]'(by omega) = y1 at *
  generalize hT : down 1 j t = T at *
  obtain ⟨z1, r0, r1, r2, rf⟩ := HGV.out.facts
  clear h2 hT hkd hdv hv hjv
  go_wp2_with fail
  refine HVT.out.mono ?_
  rintro e w2 ⟨rfl, hb2⟩
  have HB2 := tuck (bAfter HB.out hb2)
  have hg2 := HGV.out.below hb2
  have HG2 := tuck hg2
  clear hb2 z1 r0 r1 r2 rf
  obtain ⟨z1, r0, r1, r2, rf⟩ := hg2.facts
  rw [HT0.out] at r2
  obtain ⟨d3, d4, d5⟩ := HC6.out _ HB2.out
  have hz4 : b < w2.heap.size := Nat.lt_of_lt_of_le hbw HB2.out.size
  clear hg2
  go_wp2_with fail
  go_roundw
  case rel =>
   refine ⟨j + 1, xa, xc, by omega, fun _ => HTV.out, HKJ.out, by go_num, ?_, ?_, ?_⟩
   ·exact bSet3 HB2.out (Nat.le_refl _) _ _ _ _ _ _
   ·rw [HDN.out]; exact HG2.out.set
   ·rw [HDN.out]; exact HSN.out
  case measure => simp [intOf]; omega
end Go.Proofs.Ytakdfpoigjgcnaa
