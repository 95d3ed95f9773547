/-
  NsC.
-/
import Derived.Test.YtjdmfegdgpbkgaaGreatO21
import Derived.Test.YtjdmfegdgpbkgaaGreatO45
namespace Go.Proofs.YtjdmfegdgpbkgaaGreat
open Go.RowKit
set_option linter.unusedVariables false
set_option maxRecDepth 100000 in
set_option maxHeartbeats 4000000 in
theorem round6_t (s : ByteArray) (hs : s.size ≤ 1152921504606846976) (d B : Nat) (hB : B ≤ 1000) (ih : N6Ok s d (B + 1)) (nm : ByteArray) (hnm : nm.size ≤ B) (a : Nat) (ha : a ≤ s.size) (hco : colon s a = true) (w : World) :
  Calls Tryz.prog 75 #[.string s, .int .i64 a, .string nm, .int .i64 d] w (PPost s w (nptRound s (npt s d) (bl nm nm.size) a)) := by
 have HCO := tuck (fun w => colon6_any s hs a ha w)
 obtain ⟨RES, hRES⟩ : ∃ RES, RES = nptRound s (npt s d) (bl nm nm.size) a := ⟨_, rfl⟩
 rw [← hRES]
 have HNO : Hid (RES = none → ∀ w', Below w.heap.size w w' → PPost s w RES (.returned (.tuple #[.agg #[.int .i64 0, .int .i64 0, .slice none 0 0], .int .i64 (-1)])) w') := tuck fun h w' hb => by rw [h]; exact PPost.zero hb
 have HYES : Hid (∀ (K : Int) (T U : Tm) (n : Nat), RES = some (.mk K 0 [T, U], n + 1) → n + 1 ≤ s.size → ∀ w' (a' : Option Addr) (c' : Nat), Below w.heap.size w w' → SlIn w' w.heap.size [T, U] (.slice a' 2 c') → PPost s w RES (.returned (.tuple #[.agg #[.int .i64 K, .int .i64 0, .slice a' 2 c'], .int .i64 ((n : Int) + 1)])) w') := tuck fun K T U n h hn w' a' c' hb hs' => by
  rw [h]; exact ⟨hb, .mk K 0 [T, U], a', c', _, rfl, hs', rfl, by show (n : Int) + 1 = ((n + 1 : Nat) : Int); omega, hn⟩
 have HB1 := tuck (below1 w (.cells #[.int .i64 0, .int .i64 0, .slice none 0 0] 25))
 have HV1 := tuck (VarAt.new w 0 0 (.slice none 0 0))
 generalize PPost s w RES = post at *
 rw [hco] at HCO
 obtain ⟨f2, hf2⟩ : ∃ f2, f2 = npt s d ((byteAt s a : Int) :: bl nm nm.size) := ⟨_, rfl⟩
 obtain ⟨o1, ho1⟩ : ∃ o1, o1 = npt s d (bl nm nm.size) (a + 2) := ⟨_, rfl⟩
 have hal := colon_lt hco
 have hx1 : (a : Int) ≤ (a : Int) + 1 := by omega
 have hx2 : (a : Int) + 1 ≤ (s.size : Int) := by omega
 have hxn : ((a : Int) + 1).toNat = a + 1 := by omega
 have hez : (s.extract a (a + 1)).size = 1 := by rw [ByteArray.size_extract]; omega
 have hcat : ¬ (9223372036854775807 < nm.size + (s.extract a (a + 1)).size) := by rw [hez]; omega
 obtain ⟨inm, hin⟩ : ∃ inm, inm = nm ++ s.extract a (a + 1) := ⟨_, rfl⟩
 have hbl := bl_push nm s (show a < s.size by omega)
 rw [← hin] at hbl
 have hisz : inm.size = nm.size + 1 := by rw [hin, ByteArray.size_append, hez]
 have HIN := tuck hin
 have HR1 : Hid (∀ W, Calls Tryz.prog 47 #[.string s, .int .i64 ((a : Int) + 2), .string nm, .int .i64 d] W (PPost s W o1)) := tuck fun W => by
  have := ih nm (a + 2) W (by omega)
  rw [ho1]
  rwa [show ((a + 2 : Nat) : Int) = (a : Int) + 2 by omega] at this
 have HR2 : Hid (∀ (n : Nat) W, Calls Tryz.prog 47 #[.string s, .int .i64 ((n : Int) + 1), .string inm, .int .i64 d] W (PPost s W (f2 (n + 1)))) := tuck fun n W => by
  have := ih inm (n + 1) W (by rw [hisz]; omega)
  rw [show ((n + 1 : Nat) : Int) = (n : Int) + 1 by omega] at this
  rw [hf2]
  rwa [hbl] at this
 have HPT : Hid (RES = rOut s bindKind f2 o1) := tuck (by
  rw [hRES, ho1, hf2]
  unfold nptRound
  rw [hco]
  rfl)
 subst hin
 clear hRES ih hf2 ho1 hco hbl hisz HIN hez
 cases hp : o1 with
 | none =>
  rw [hp] at HR1
  replace HNO := tuck (HNO.out (by rw [HPT.out, hp]; rfl))
  clear HYES HPT hp HR2
  go_enter Tryz.func75, Tryz.ntmps75
  go_wp2_with fail
  generalize w.alloc (.cells #[.int .i64 0, .int .i64 0, .slice none 0 0] 25) = W1 at *
  refine (HCO.out _).mono ?_
  rintro e wq ⟨rfl, hwq⟩
  have hwq' := hwq.symm
  subst hwq'
  go_wp2_with fail
  refine (HR1.out _).mono ?_
  rintro e w3 ⟨hb3, T, ta, tc, nx, rfl, hs3, hm⟩
  have hbx := below1 w3 (.cells #[.int .i64 T.kind, .int .i64 T.num, .slice ta T.kids.length tc] 25)
  have HV3 := tuck ((HV1.out.below hb3).below hbx)
  have HVT := tuck (VarAt.new w3 T.kind T.num (.slice ta T.kids.length tc))
  have HB3 := tuck (bAfter HB1.out (bAfter hb3 hbx))
  have HZ1 : Hid (w.heap.size + 1 ≤ W1.heap.size) := tuck HV1.out.facts.1
  have HS3 := tuck (hs3.below hbx)
  obtain ⟨z1, r0, r1, r2, rf⟩ := HV3.out.facts
  clear hb3 hs3 hbx HR1
  obtain rfl : nx = -1 := hm
  go_wp2_with fail
  refine bodyPost_ret (v := .tuple #[.agg #[.int .i64 0, .int .i64 0, .slice none 0 0], .int .i64 (-1)]) (by simp [results, Tryz.results75, go_sem, *]) rfl (HNO.out _ ?_)
  exact bSet3 HB3.out (Nat.le_refl _) _ _ _ _ _ _
 | some x =>
  obtain ⟨X, n⟩ := x
  rw [hp] at HR1
  by_cases hn : n < s.size
  ·by_cases h62 : s[n].toNat = 62
   ·have HRK : Hid (bindKind (byteAt s n) = 3) := tuck (by rw [byteAt_eq hn]; unfold bindKind; rw [if_pos h62])
    have g62 : ((s[n].toNat : Int) == 62) = true := by rw [beq_iff_eq]; omega
    cases hq : f2 (n + 1) with
    | none =>
     replace HNO := tuck (HNO.out (by rw [HPT.out, hp]; unfold rOut; dsimp only; rw [if_pos hn, hq]))
     have HR2' : Hid (∀ W, Calls Tryz.prog 47 #[.string s, .int .i64 ((n : Int) + 1), .string (nm ++ s.extract a (a + 1)), .int .i64 d] W (PPost s W none)) := tuck fun W => by have := HR2.out n W; rwa [hq] at this
     clear HYES HPT hp hq HR2
     go_enter Tryz.func75, Tryz.ntmps75
     go_wp2_with fail
     generalize w.alloc (.cells #[.int .i64 0, .int .i64 0, .slice none 0 0] 25) = W1 at *
     refine (HCO.out _).mono ?_
     rintro e wq ⟨rfl, hwq⟩
     have hwq' := hwq.symm
     subst hwq'
     go_wp2_with fail
     refine (HR1.out _).mono ?_
     rintro e w3 ⟨hb3, T, ta, tc, nx, rfl, hs3, hm⟩
     have hbx := below1 w3 (.cells #[.int .i64 T.kind, .int .i64 T.num, .slice ta T.kids.length tc] 25)
     have HV3 := tuck ((HV1.out.below hb3).below hbx)
     have HVT := tuck (VarAt.new w3 T.kind T.num (.slice ta T.kids.length tc))
     have HB3 := tuck (bAfter HB1.out (bAfter hb3 hbx))
     have HZ1 : Hid (w.heap.size + 1 ≤ W1.heap.size) := tuck HV1.out.facts.1
     have HS3 := tuck (hs3.below hbx)
     obtain ⟨z1, r0, r1, r2, rf⟩ := HV3.out.facts
     clear hb3 hs3 hbx HR1
     obtain ⟨rfl, rfl, hle⟩ := hm
     have hg1 : decide ((n : Int) < 0) = false := decide_eq_false (by omega)
     have hg2 : decide ((s.size : Int) ≤ (n : Int)) = false := decide_eq_false (by omega)
     have hg3 : ¬ (s.size : Int) ≤ (n : Int) := by omega
     have hg4 : (n : Int) < (s.size : Int) := by omega
     have HZ3 : Hid (w.heap.size + 1 ≤ (w3.alloc (.cells #[.int .i64 T.kind, .int .i64 T.num, .slice ta T.kids.length tc] 25)).heap.size) := tuck z1
     go_wp2_with fail
     refine (HR2'.out _).mono ?_
     rintro e w5 ⟨hb5, U, ua, uc, ny, rfl, hs5, hm2⟩
     have hby := below1 w5 (.cells #[.int .i64 U.kind, .int .i64 U.num, .slice ua U.kids.length uc] 25)
     have HV5 := tuck ((HV3.out.below hb5).below hby)
     have HVT5 := tuck ((HVT.out.below hb5).below hby)
     have HVU5 := tuck (VarAt.new w5 U.kind U.num (.slice ua U.kids.length uc))
     have HB5 := tuck (bAfter HB3.out (bAfter hb5 hby))
     have HST := tuck ((HS3.out.below hb5).below hby)
     have HSU := tuck (hs5.below hby)
     have HM2 := tuck hm2
     clear z1 r0 r1 r2 rf
     obtain ⟨z1, r0, r1, r2, rf⟩ := HV5.out.facts
     clear hb5 hby hs5 hm2
     obtain rfl : ny = -1 := HM2.out
     go_wp2_with fail
     refine bodyPost_ret (v := .tuple #[.agg #[.int .i64 0, .int .i64 0, .slice none 0 0], .int .i64 (-1)]) (by simp [results, Tryz.results75, go_sem, *]) rfl (HNO.out _ ?_)
     exact bSet3 HB5.out (Nat.le_refl _) _ _ _ _ _ _
    | some y =>
     obtain ⟨Y, m⟩ := y
     have HR2' : Hid (∀ W, Calls Tryz.prog 47 #[.string s, .int .i64 ((n : Int) + 1), .string (nm ++ s.extract a (a + 1)), .int .i64 d] W (PPost s W (some (Y, m)))) := tuck fun W => by have := HR2.out n W; rwa [hq] at this
     by_cases hm1 : m < s.size
     ·by_cases h41 : s[m].toNat = 41
      ·have HPY : Hid (RES = some (.mk 3 0 [X, Y], m + 1)) := tuck (by rw [HPT.out, hp]; unfold rOut; dsimp only; rw [if_pos hn, hq]; dsimp only; rw [if_pos ⟨by rw [HRK.out]; decide, hm1, by rw [byteAt_eq hm1]; exact h41⟩, HRK.out])
       replace HYES := tuck (HYES.out 3 X Y m HPY.out (by omega))
       clear HNO HPT hp hq HR2 HPY
       go_enter Tryz.func75, Tryz.ntmps75
       go_wp2_with fail
       generalize w.alloc (.cells #[.int .i64 0, .int .i64 0, .slice none 0 0] 25) = W1 at *
       refine (HCO.out _).mono ?_
       rintro e wq ⟨rfl, hwq⟩
       have hwq' := hwq.symm
       subst hwq'
       go_wp2_with fail
       refine (HR1.out _).mono ?_
       rintro e w3 ⟨hb3, T, ta, tc, nx, rfl, hs3, hm⟩
       have hbx := below1 w3 (.cells #[.int .i64 T.kind, .int .i64 T.num, .slice ta T.kids.length tc] 25)
       have HV3 := tuck ((HV1.out.below hb3).below hbx)
       have HVT := tuck (VarAt.new w3 T.kind T.num (.slice ta T.kids.length tc))
       have HB3 := tuck (bAfter HB1.out (bAfter hb3 hbx))
       have HZ1 : Hid (w.heap.size + 1 ≤ W1.heap.size) := tuck HV1.out.facts.1
       have HS3 := tuck (hs3.below hbx)
       obtain ⟨z1, r0, r1, r2, rf⟩ := HV3.out.facts
       clear hb3 hs3 hbx HR1
       obtain ⟨rfl, rfl, hle⟩ := hm
       have hg1 : decide ((n : Int) < 0) = false := decide_eq_false (by omega)
       have hg2 : decide ((s.size : Int) ≤ (n : Int)) = false := decide_eq_false (by omega)
       have hg3 : ¬ (s.size : Int) ≤ (n : Int) := by omega
       have hg4 : (n : Int) < (s.size : Int) := by omega
       have HZ3 : Hid (w.heap.size + 1 ≤ (w3.alloc (.cells #[.int .i64 T.kind, .int .i64 T.num, .slice ta T.kids.length tc] 25)).heap.size) := tuck z1
       go_wp2_with fail
       refine (HR2'.out _).mono ?_
       rintro e w5 ⟨hb5, U, ua, uc, ny, rfl, hs5, hm2⟩
       have hby := below1 w5 (.cells #[.int .i64 U.kind, .int .i64 U.num, .slice ua U.kids.length uc] 25)
       have HV5 := tuck ((HV3.out.below hb5).below hby)
       have HVT5 := tuck ((HVT.out.below hb5).below hby)
       have HVU5 := tuck (VarAt.new w5 U.kind U.num (.slice ua U.kids.length uc))
       have HB5 := tuck (bAfter HB3.out (bAfter hb5 hby))
       have HST := tuck ((HS3.out.below hb5).below hby)
       have HSU := tuck (hs5.below hby)
       have HM2 := tuck hm2
       clear z1 r0 r1 r2 rf
       obtain ⟨z1, r0, r1, r2, rf⟩ := HV5.out.facts
       clear hb5 hby hs5 hm2
       obtain ⟨rfl, rfl, hle2⟩ := HM2.out
       have k1 : decide ((m : Int) < 0) = false := decide_eq_false (by omega)
       have k2 : decide ((s.size : Int) ≤ (m : Int)) = false := decide_eq_false (by omega)
       have k3 : (m : Int) < (s.size : Int) := by omega
       have k4 : ((s[m].toNat : Int) != 41) = false := by rw [bne_eq_false_iff_eq]; omega
       have hbr := below1 (w5.alloc (.cells #[.int .i64 U.kind, .int .i64 U.num, .slice ua U.kids.length uc] 25)) (.cells #[.int .i64 T.kind, .int .i64 T.num, .slice ta T.kids.length tc, .int .i64 U.kind, .int .i64 U.num, .slice ua U.kids.length uc] 25)
       have HV6 := tuck (HV5.out.below hbr)
       have HB6 := tuck (bAfter HB5.out hbr)
       have hzt : w.heap.size + 1 ≤ W1.heap.size := HZ1.out
       have hzu := HZ3.out
       have HNODE : Hid (Calls Tryz.prog 55 #[.int .i64 3, .slice (some ⟨w5.heap.size + 1, 0, none⟩) 2 2] ((w5.alloc (.cells #[.int .i64 U.kind, .int .i64 U.num, .slice ua U.kids.length uc] 25)).alloc (.cells #[.int .i64 T.kind, .int .i64 T.num, .slice ta T.kids.length tc, .int .i64 U.kind, .int .i64 U.num, .slice ua U.kids.length uc] 25)) fun e w' => Below ((w5.alloc (.cells #[.int .i64 U.kind, .int .i64 U.num, .slice ua U.kids.length uc] 25)).alloc (.cells #[.int .i64 T.kind, .int .i64 T.num, .slice ta T.kids.length tc, .int .i64 U.kind, .int .i64 U.num, .slice ua U.kids.length uc] 25)).heap.size ((w5.alloc (.cells #[.int .i64 U.kind, .int .i64 U.num, .slice ua U.kids.length uc] 25)).alloc (.cells #[.int .i64 T.kind, .int .i64 T.num, .slice ta T.kids.length tc, .int .i64 U.kind, .int .i64 U.num, .slice ua U.kids.length uc] 25)) w' ∧ ∃ (a : Option Addr) (c : Nat), e = .returned (.agg #[.int .i64 3, .int .i64 0, .slice a 2 c]) ∧ SlX w' (fun i => i < w.heap.size + 1) [T, U] (.slice a 2 c)) := tuck (by
        have h := nodeX_any 3 [(T, .slice ta T.kids.length tc), (U, .slice ua U.kids.length uc)] ((w5.alloc (.cells #[.int .i64 U.kind, .int .i64 U.num, .slice ua U.kids.length uc] 25)).alloc (.cells #[.int .i64 T.kind, .int .i64 T.num, .slice ta T.kids.length tc, .int .i64 U.kind, .int .i64 U.num, .slice ua U.kids.length uc] 25)) (w5.alloc (.cells #[.int .i64 U.kind, .int .i64 U.num, .slice ua U.kids.length uc] 25)).heap.size 2 25 #[.int .i64 T.kind, .int .i64 T.num, .slice ta T.kids.length tc, .int .i64 U.kind, .int .i64 U.num, .slice ua U.kids.length uc] (fun i => i < w.heap.size + 1) (fun i hi => by have h1 := HB6.out.size; have h2 := HV6.out.facts.1; omega) (by simp) (by simp) (heap_new _ _) (by simp [cellsL]) (fun x hx => by
         simp only [List.mem_cons, List.not_mem_nil, or_false] at hx
         rcases hx with rfl | rfl
         ·exact SlX.of_sl (HST.out.below hbr) (fun i hi => by omega)
         ·exact SlX.of_sl (HSU.out.below hbr) (fun i hi => by omega))
        rw [show (w5.alloc (.cells #[.int .i64 U.kind, .int .i64 U.num, .slice ua U.kids.length uc] 25)).heap.size = w5.heap.size + 1 by simp] at h
        exact h)
       obtain ⟨zt, t0, t1, t2, -⟩ := HVT5.out.facts
       obtain ⟨zu, u0, u1, u2, -⟩ := HVU5.out.facts
       clear hbr hzt hzu
       go_wp2_with fail
       refine HNODE.out.mono ?_
       rintro e w7 ⟨hb7, xa, xc, rfl, hs7⟩
       clear z1 r0 r1 r2 rf
       obtain ⟨z1, r0, r1, r2, rf⟩ := (HV6.out.below hb7).facts
       have HB7 := tuck (bAfter HB6.out hb7)
       have HS7 := tuck (SlX.from hs7)
       clear hb7 hs7 HNODE
       go_wp2_with fail
       refine bodyPost_ret (v := .tuple #[.agg #[.int .i64 3, .int .i64 0, .slice xa 2 xc], .int .i64 ((m : Int) + 1)]) (by simp [results, Tryz.results75, go_sem, *]) rfl (HYES.out _ xa xc ?_ ?_)
       ·exact bSet3 HB7.out (Nat.le_refl _) _ _ _ _ _ _
       ·exact (SlIn.set3 HS7.out (Nat.lt_succ_self _)).mono (Nat.le_succ _)
      ·replace HNO := tuck (HNO.out (by rw [HPT.out, hp]; unfold rOut; dsimp only; rw [if_pos hn, hq]; exact if_neg (fun h => h41 (by rw [← byteAt_eq hm1]; exact h.2.2))))
       clear HYES HPT hp hq HR2
       go_enter Tryz.func75, Tryz.ntmps75
       go_wp2_with fail
       generalize w.alloc (.cells #[.int .i64 0, .int .i64 0, .slice none 0 0] 25) = W1 at *
       refine (HCO.out _).mono ?_
       rintro e wq ⟨rfl, hwq⟩
       have hwq' := hwq.symm
       subst hwq'
       go_wp2_with fail
       refine (HR1.out _).mono ?_
       rintro e w3 ⟨hb3, T, ta, tc, nx, rfl, hs3, hm⟩
       have hbx := below1 w3 (.cells #[.int .i64 T.kind, .int .i64 T.num, .slice ta T.kids.length tc] 25)
       have HV3 := tuck ((HV1.out.below hb3).below hbx)
       have HVT := tuck (VarAt.new w3 T.kind T.num (.slice ta T.kids.length tc))
       have HB3 := tuck (bAfter HB1.out (bAfter hb3 hbx))
       have HZ1 : Hid (w.heap.size + 1 ≤ W1.heap.size) := tuck HV1.out.facts.1
       have HS3 := tuck (hs3.below hbx)
       obtain ⟨z1, r0, r1, r2, rf⟩ := HV3.out.facts
       clear hb3 hs3 hbx HR1
       obtain ⟨rfl, rfl, hle⟩ := hm
       have hg1 : decide ((n : Int) < 0) = false := decide_eq_false (by omega)
       have hg2 : decide ((s.size : Int) ≤ (n : Int)) = false := decide_eq_false (by omega)
       have hg3 : ¬ (s.size : Int) ≤ (n : Int) := by omega
       have hg4 : (n : Int) < (s.size : Int) := by omega
       have HZ3 : Hid (w.heap.size + 1 ≤ (w3.alloc (.cells #[.int .i64 T.kind, .int .i64 T.num, .slice ta T.kids.length tc] 25)).heap.size) := tuck z1
       go_wp2_with fail
       refine (HR2'.out _).mono ?_
       rintro e w5 ⟨hb5, U, ua, uc, ny, rfl, hs5, hm2⟩
       have hby := below1 w5 (.cells #[.int .i64 U.kind, .int .i64 U.num, .slice ua U.kids.length uc] 25)
       have HV5 := tuck ((HV3.out.below hb5).below hby)
       have HVT5 := tuck ((HVT.out.below hb5).below hby)
       have HVU5 := tuck (VarAt.new w5 U.kind U.num (.slice ua U.kids.length uc))
       have HB5 := tuck (bAfter HB3.out (bAfter hb5 hby))
       have HST := tuck ((HS3.out.below hb5).below hby)
       have HSU := tuck (hs5.below hby)
       have HM2 := tuck hm2
       clear z1 r0 r1 r2 rf
       obtain ⟨z1, r0, r1, r2, rf⟩ := HV5.out.facts
       clear hb5 hby hs5 hm2
       obtain ⟨rfl, rfl, hle2⟩ := HM2.out
       have k1 : decide ((m : Int) < 0) = false := decide_eq_false (by omega)
       have k2 : decide ((s.size : Int) ≤ (m : Int)) = false := decide_eq_false (by omega)
       have k3 : (m : Int) < (s.size : Int) := by omega
       have k4 : ((s[m].toNat : Int) != 41) = true := by rw [bne_iff_ne]; omega
       go_wp2_with fail
       refine bodyPost_ret (v := .tuple #[.agg #[.int .i64 0, .int .i64 0, .slice none 0 0], .int .i64 (-1)]) (by simp [results, Tryz.results75, go_sem, *]) rfl (HNO.out _ ?_)
       exact bSet3 HB5.out (Nat.le_refl _) _ _ _ _ _ _
     ·replace HNO := tuck (HNO.out (by rw [HPT.out, hp]; unfold rOut; dsimp only; rw [if_pos hn, hq]; exact if_neg (fun h => hm1 h.2.1)))
      clear HYES HPT hp hq HR2
      go_enter Tryz.func75, Tryz.ntmps75
      go_wp2_with fail
      generalize w.alloc (.cells #[.int .i64 0, .int .i64 0, .slice none 0 0] 25) = W1 at *
      refine (HCO.out _).mono ?_
      rintro e wq ⟨rfl, hwq⟩
      have hwq' := hwq.symm
      subst hwq'
      go_wp2_with fail
      refine (HR1.out _).mono ?_
      rintro e w3 ⟨hb3, T, ta, tc, nx, rfl, hs3, hm⟩
      have hbx := below1 w3 (.cells #[.int .i64 T.kind, .int .i64 T.num, .slice ta T.kids.length tc] 25)
      have HV3 := tuck ((HV1.out.below hb3).below hbx)
      have HVT := tuck (VarAt.new w3 T.kind T.num (.slice ta T.kids.length tc))
      have HB3 := tuck (bAfter HB1.out (bAfter hb3 hbx))
      have HZ1 : Hid (w.heap.size + 1 ≤ W1.heap.size) := tuck HV1.out.facts.1
      have HS3 := tuck (hs3.below hbx)
      obtain ⟨z1, r0, r1, r2, rf⟩ := HV3.out.facts
      clear hb3 hs3 hbx HR1
      obtain ⟨rfl, rfl, hle⟩ := hm
      have hg1 : decide ((n : Int) < 0) = false := decide_eq_false (by omega)
      have hg2 : decide ((s.size : Int) ≤ (n : Int)) = false := decide_eq_false (by omega)
      have hg3 : ¬ (s.size : Int) ≤ (n : Int) := by omega
      have hg4 : (n : Int) < (s.size : Int) := by omega
      have HZ3 : Hid (w.heap.size + 1 ≤ (w3.alloc (.cells #[.int .i64 T.kind, .int .i64 T.num, .slice ta T.kids.length tc] 25)).heap.size) := tuck z1
      go_wp2_with fail
      refine (HR2'.out _).mono ?_
      rintro e w5 ⟨hb5, U, ua, uc, ny, rfl, hs5, hm2⟩
      have hby := below1 w5 (.cells #[.int .i64 U.kind, .int .i64 U.num, .slice ua U.kids.length uc] 25)
      have HV5 := tuck ((HV3.out.below hb5).below hby)
      have HVT5 := tuck ((HVT.out.below hb5).below hby)
      have HVU5 := tuck (VarAt.new w5 U.kind U.num (.slice ua U.kids.length uc))
      have HB5 := tuck (bAfter HB3.out (bAfter hb5 hby))
      have HST := tuck ((HS3.out.below hb5).below hby)
      have HSU := tuck (hs5.below hby)
      have HM2 := tuck hm2
      clear z1 r0 r1 r2 rf
      obtain ⟨z1, r0, r1, r2, rf⟩ := HV5.out.facts
      clear hb5 hby hs5 hm2
      obtain ⟨rfl, rfl, hle2⟩ := HM2.out
      have k1 : decide ((m : Int) < 0) = false := decide_eq_false (by omega)
      have k2 : decide ((s.size : Int) ≤ (m : Int)) = true := decide_eq_true (by omega)
      go_wp2_with fail
      refine bodyPost_ret (v := .tuple #[.agg #[.int .i64 0, .int .i64 0, .slice none 0 0], .int .i64 (-1)]) (by simp [results, Tryz.results75, go_sem, *]) rfl (HNO.out _ ?_)
      exact bSet3 HB5.out (Nat.le_refl _) _ _ _ _ _ _
   by_cases h42 : s[n].toNat = 42
   ·have HRK : Hid (bindKind (byteAt s n) = 13) := tuck (by rw [byteAt_eq hn]; unfold bindKind; rw [if_neg h62, if_pos h42])
    have g62 : ((s[n].toNat : Int) == 62) = false := by rw [beq_eq_false_iff_ne]; omega
    have g42 : ((s[n].toNat : Int) == 42) = true := by rw [beq_iff_eq]; omega
    cases hq : f2 (n + 1) with
    | none =>
     replace HNO := tuck (HNO.out (by rw [HPT.out, hp]; unfold rOut; dsimp only; rw [if_pos hn, hq]))
     have HR2' : Hid (∀ W, Calls Tryz.prog 47 #[.string s, .int .i64 ((n : Int) + 1), .string (nm ++ s.extract a (a + 1)), .int .i64 d] W (PPost s W none)) := tuck fun W => by have := HR2.out n W; rwa [hq] at this
     clear HYES HPT hp hq HR2
     go_enter Tryz.func75, Tryz.ntmps75
     go_wp2_with fail
     generalize w.alloc (.cells #[.int .i64 0, .int .i64 0, .slice none 0 0] 25) = W1 at *
     refine (HCO.out _).mono ?_
     rintro e wq ⟨rfl, hwq⟩
     have hwq' := hwq.symm
     subst hwq'
     go_wp2_with fail
     refine (HR1.out _).mono ?_
     rintro e w3 ⟨hb3, T, ta, tc, nx, rfl, hs3, hm⟩
     have hbx := below1 w3 (.cells #[.int .i64 T.kind, .int .i64 T.num, .slice ta T.kids.length tc] 25)
     have HV3 := tuck ((HV1.out.below hb3).below hbx)
     have HVT := tuck (VarAt.new w3 T.kind T.num (.slice ta T.kids.length tc))
     have HB3 := tuck (bAfter HB1.out (bAfter hb3 hbx))
     have HZ1 : Hid (w.heap.size + 1 ≤ W1.heap.size) := tuck HV1.out.facts.1
     have HS3 := tuck (hs3.below hbx)
     obtain ⟨z1, r0, r1, r2, rf⟩ := HV3.out.facts
     clear hb3 hs3 hbx HR1
     obtain ⟨rfl, rfl, hle⟩ := hm
     have hg1 : decide ((n : Int) < 0) = false := decide_eq_false (by omega)
     have hg2 : decide ((s.size : Int) ≤ (n : Int)) = false := decide_eq_false (by omega)
     have hg3 : ¬ (s.size : Int) ≤ (n : Int) := by omega
     have hg4 : (n : Int) < (s.size : Int) := by omega
     have HZ3 : Hid (w.heap.size + 1 ≤ (w3.alloc (.cells #[.int .i64 T.kind, .int .i64 T.num, .slice ta T.kids.length tc] 25)).heap.size) := tuck z1
     go_wp2_with fail
     refine (HR2'.out _).mono ?_
     rintro e w5 ⟨hb5, U, ua, uc, ny, rfl, hs5, hm2⟩
     have hby := below1 w5 (.cells #[.int .i64 U.kind, .int .i64 U.num, .slice ua U.kids.length uc] 25)
     have HV5 := tuck ((HV3.out.below hb5).below hby)
     have HVT5 := tuck ((HVT.out.below hb5).below hby)
     have HVU5 := tuck (VarAt.new w5 U.kind U.num (.slice ua U.kids.length uc))
     have HB5 := tuck (bAfter HB3.out (bAfter hb5 hby))
     have HST := tuck ((HS3.out.below hb5).below hby)
     have HSU := tuck (hs5.below hby)
     have HM2 := tuck hm2
     clear z1 r0 r1 r2 rf
     obtain ⟨z1, r0, r1, r2, rf⟩ := HV5.out.facts
     clear hb5 hby hs5 hm2
     obtain rfl : ny = -1 := HM2.out
     go_wp2_with fail
     refine bodyPost_ret (v := .tuple #[.agg #[.int .i64 0, .int .i64 0, .slice none 0 0], .int .i64 (-1)]) (by simp [results, Tryz.results75, go_sem, *]) rfl (HNO.out _ ?_)
     exact bSet3 HB5.out (Nat.le_refl _) _ _ _ _ _ _
    | some y =>
     obtain ⟨Y, m⟩ := y
     have HR2' : Hid (∀ W, Calls Tryz.prog 47 #[.string s, .int .i64 ((n : Int) + 1), .string (nm ++ s.extract a (a + 1)), .int .i64 d] W (PPost s W (some (Y, m)))) := tuck fun W => by have := HR2.out n W; rwa [hq] at this
     by_cases hm1 : m < s.size
     ·by_cases h41 : s[m].toNat = 41
      ·have HPY : Hid (RES = some (.mk 13 0 [X, Y], m + 1)) := tuck (by rw [HPT.out, hp]; unfold rOut; dsimp only; rw [if_pos hn, hq]; dsimp only; rw [if_pos ⟨by rw [HRK.out]; decide, hm1, by rw [byteAt_eq hm1]; exact h41⟩, HRK.out])
       replace HYES := tuck (HYES.out 13 X Y m HPY.out (by omega))
       clear HNO HPT hp hq HR2 HPY
       go_enter Tryz.func75, Tryz.ntmps75
       go_wp2_with fail
       generalize w.alloc (.cells #[.int .i64 0, .int .i64 0, .slice none 0 0] 25) = W1 at *
       refine (HCO.out _).mono ?_
       rintro e wq ⟨rfl, hwq⟩
       have hwq' := hwq.symm
       subst hwq'
       go_wp2_with fail
       refine (HR1.out _).mono ?_
       rintro e w3 ⟨hb3, T, ta, tc, nx, rfl, hs3, hm⟩
       have hbx := below1 w3 (.cells #[.int .i64 T.kind, .int .i64 T.num, .slice ta T.kids.length tc] 25)
       have HV3 := tuck ((HV1.out.below hb3).below hbx)
       have HVT := tuck (VarAt.new w3 T.kind T.num (.slice ta T.kids.length tc))
       have HB3 := tuck (bAfter HB1.out (bAfter hb3 hbx))
       have HZ1 : Hid (w.heap.size + 1 ≤ W1.heap.size) := tuck HV1.out.facts.1
       have HS3 := tuck (hs3.below hbx)
       obtain ⟨z1, r0, r1, r2, rf⟩ := HV3.out.facts
       clear hb3 hs3 hbx HR1
       obtain ⟨rfl, rfl, hle⟩ := hm
       have hg1 : decide ((n : Int) < 0) = false := decide_eq_false (by omega)
       have hg2 : decide ((s.size : Int) ≤ (n : Int)) = false := decide_eq_false (by omega)
       have hg3 : ¬ (s.size : Int) ≤ (n : Int) := by omega
       have hg4 : (n : Int) < (s.size : Int) := by omega
       have HZ3 : Hid (w.heap.size + 1 ≤ (w3.alloc (.cells #[.int .i64 T.kind, .int .i64 T.num, .slice ta T.kids.length tc] 25)).heap.size) := tuck z1
       go_wp2_with fail
       refine (HR2'.out _).mono ?_
       rintro e w5 ⟨hb5, U, ua, uc, ny, rfl, hs5, hm2⟩
       have hby := below1 w5 (.cells #[.int .i64 U.kind, .int .i64 U.num, .slice ua U.kids.length uc] 25)
       have HV5 := tuck ((HV3.out.below hb5).below hby)
       have HVT5 := tuck ((HVT.out.below hb5).below hby)
       have HVU5 := tuck (VarAt.new w5 U.kind U.num (.slice ua U.kids.length uc))
       have HB5 := tuck (bAfter HB3.out (bAfter hb5 hby))
       have HST := tuck ((HS3.out.below hb5).below hby)
       have HSU := tuck (hs5.below hby)
       have HM2 := tuck hm2
       clear z1 r0 r1 r2 rf
       obtain ⟨z1, r0, r1, r2, rf⟩ := HV5.out.facts
       clear hb5 hby hs5 hm2
       obtain ⟨rfl, rfl, hle2⟩ := HM2.out
       have k1 : decide ((m : Int) < 0) = false := decide_eq_false (by omega)
       have k2 : decide ((s.size : Int) ≤ (m : Int)) = false := decide_eq_false (by omega)
       have k3 : (m : Int) < (s.size : Int) := by omega
       have k4 : ((s[m].toNat : Int) != 41) = false := by rw [bne_eq_false_iff_eq]; omega
       have hbr := below1 (w5.alloc (.cells #[.int .i64 U.kind, .int .i64 U.num, .slice ua U.kids.length uc] 25)) (.cells #[.int .i64 T.kind, .int .i64 T.num, .slice ta T.kids.length tc, .int .i64 U.kind, .int .i64 U.num, .slice ua U.kids.length uc] 25)
       have HV6 := tuck (HV5.out.below hbr)
       have HB6 := tuck (bAfter HB5.out hbr)
       have hzt : w.heap.size + 1 ≤ W1.heap.size := HZ1.out
       have hzu := HZ3.out
       have HNODE : Hid (Calls Tryz.prog 55 #[.int .i64 13, .slice (some ⟨w5.heap.size + 1, 0, none⟩) 2 2] ((w5.alloc (.cells #[.int .i64 U.kind, .int .i64 U.num, .slice ua U.kids.length uc] 25)).alloc (.cells #[.int .i64 T.kind, .int .i64 T.num, .slice ta T.kids.length tc, .int .i64 U.kind, .int .i64 U.num, .slice ua U.kids.length uc] 25)) fun e w' => Below ((w5.alloc (.cells #[.int .i64 U.kind, .int .i64 U.num, .slice ua U.kids.length uc] 25)).alloc (.cells #[.int .i64 T.kind, .int .i64 T.num, .slice ta T.kids.length tc, .int .i64 U.kind, .int .i64 U.num, .slice ua U.kids.length uc] 25)).heap.size ((w5.alloc (.cells #[.int .i64 U.kind, .int .i64 U.num, .slice ua U.kids.length uc] 25)).alloc (.cells #[.int .i64 T.kind, .int .i64 T.num, .slice ta T.kids.length tc, .int .i64 U.kind, .int .i64 U.num, .slice ua U.kids.length uc] 25)) w' ∧ ∃ (a : Option Addr) (c : Nat), e = .returned (.agg #[.int .i64 13, .int .i64 0, .slice a 2 c]) ∧ SlX w' (fun i => i < w.heap.size + 1) [T, U] (.slice a 2 c)) := tuck (by
        have h := nodeX_any 13 [(T, .slice ta T.kids.length tc), (U, .slice ua U.kids.length uc)] ((w5.alloc (.cells #[.int .i64 U.kind, .int .i64 U.num, .slice ua U.kids.length uc] 25)).alloc (.cells #[.int .i64 T.kind, .int .i64 T.num, .slice ta T.kids.length tc, .int .i64 U.kind, .int .i64 U.num, .slice ua U.kids.length uc] 25)) (w5.alloc (.cells #[.int .i64 U.kind, .int .i64 U.num, .slice ua U.kids.length uc] 25)).heap.size 2 25 #[.int .i64 T.kind, .int .i64 T.num, .slice ta T.kids.length tc, .int .i64 U.kind, .int .i64 U.num, .slice ua U.kids.length uc] (fun i => i < w.heap.size + 1) (fun i hi => by have h1 := HB6.out.size; have h2 := HV6.out.facts.1; omega) (by simp) (by simp) (heap_new _ _) (by simp [cellsL]) (fun x hx => by
         simp only [List.mem_cons, List.not_mem_nil, or_false] at hx
         rcases hx with rfl | rfl
         ·exact SlX.of_sl (HST.out.below hbr) (fun i hi => by omega)
         ·exact SlX.of_sl (HSU.out.below hbr) (fun i hi => by omega))
        rw [show (w5.alloc (.cells #[.int .i64 U.kind, .int .i64 U.num, .slice ua U.kids.length uc] 25)).heap.size = w5.heap.size + 1 by simp] at h
        exact h)
       obtain ⟨zt, t0, t1, t2, -⟩ := HVT5.out.facts
       obtain ⟨zu, u0, u1, u2, -⟩ := HVU5.out.facts
       clear hbr hzt hzu
       go_wp2_with fail
       refine HNODE.out.mono ?_
       rintro e w7 ⟨hb7, xa, xc, rfl, hs7⟩
       clear z1 r0 r1 r2 rf
       obtain ⟨z1, r0, r1, r2, rf⟩ := (HV6.out.below hb7).facts
       have HB7 := tuck (bAfter HB6.out hb7)
       have HS7 := tuck (SlX.from hs7)
       clear hb7 hs7 HNODE
       go_wp2_with fail
       refine bodyPost_ret (v := .tuple #[.agg #[.int .i64 13, .int .i64 0, .slice xa 2 xc], .int .i64 ((m : Int) + 1)]) (by simp [results, Tryz.results75, go_sem, *]) rfl (HYES.out _ xa xc ?_ ?_)
       ·exact bSet3 HB7.out (Nat.le_refl _) _ _ _ _ _ _
       ·exact (SlIn.set3 HS7.out (Nat.lt_succ_self _)).mono (Nat.le_succ _)
      ·replace HNO := tuck (HNO.out (by rw [HPT.out, hp]; unfold rOut; dsimp only; rw [if_pos hn, hq]; exact if_neg (fun h => h41 (by rw [← byteAt_eq hm1]; exact h.2.2))))
       clear HYES HPT hp hq HR2
       go_enter Tryz.func75, Tryz.ntmps75
       go_wp2_with fail
       generalize w.alloc (.cells #[.int .i64 0, .int .i64 0, .slice none 0 0] 25) = W1 at *
       refine (HCO.out _).mono ?_
       rintro e wq ⟨rfl, hwq⟩
       have hwq' := hwq.symm
       subst hwq'
       go_wp2_with fail
       refine (HR1.out _).mono ?_
       rintro e w3 ⟨hb3, T, ta, tc, nx, rfl, hs3, hm⟩
       have hbx := below1 w3 (.cells #[.int .i64 T.kind, .int .i64 T.num, .slice ta T.kids.length tc] 25)
       have HV3 := tuck ((HV1.out.below hb3).below hbx)
       have HVT := tuck (VarAt.new w3 T.kind T.num (.slice ta T.kids.length tc))
       have HB3 := tuck (bAfter HB1.out (bAfter hb3 hbx))
       have HZ1 : Hid (w.heap.size + 1 ≤ W1.heap.size) := tuck HV1.out.facts.1
       have HS3 := tuck (hs3.below hbx)
       obtain ⟨z1, r0, r1, r2, rf⟩ := HV3.out.facts
       clear hb3 hs3 hbx HR1
       obtain ⟨rfl, rfl, hle⟩ := hm
       have hg1 : decide ((n : Int) < 0) = false := decide_eq_false (by omega)
       have hg2 : decide ((s.size : Int) ≤ (n : Int)) = false := decide_eq_false (by omega)
       have hg3 : ¬ (s.size : Int) ≤ (n : Int) := by omega
       have hg4 : (n : Int) < (s.size : Int) := by omega
       have HZ3 : Hid (w.heap.size + 1 ≤ (w3.alloc (.cells #[.int .i64 T.kind, .int .i64 T.num, .slice ta T.kids.length tc] 25)).heap.size) := tuck z1
       go_wp2_with fail
       refine (HR2'.out _).mono ?_
       rintro e w5 ⟨hb5, U, ua, uc, ny, rfl, hs5, hm2⟩
       have hby := below1 w5 (.cells #[.int .i64 U.kind, .int .i64 U.num, .slice ua U.kids.length uc] 25)
       have HV5 := tuck ((HV3.out.below hb5).below hby)
       have HVT5 := tuck ((HVT.out.below hb5).below hby)
       have HVU5 := tuck (VarAt.new w5 U.kind U.num (.slice ua U.kids.length uc))
       have HB5 := tuck (bAfter HB3.out (bAfter hb5 hby))
       have HST := tuck ((HS3.out.below hb5).below hby)
       have HSU := tuck (hs5.below hby)
       have HM2 := tuck hm2
       clear z1 r0 r1 r2 rf
       obtain ⟨z1, r0, r1, r2, rf⟩ := HV5.out.facts
       clear hb5 hby hs5 hm2
       obtain ⟨rfl, rfl, hle2⟩ := HM2.out
       have k1 : decide ((m : Int) < 0) = false := decide_eq_false (by omega)
       have k2 : decide ((s.size : Int) ≤ (m : Int)) = false := decide_eq_false (by omega)
       have k3 : (m : Int) < (s.size : Int) := by omega
       have k4 : ((s[m].toNat : Int) != 41) = true := by rw [bne_iff_ne]; omega
       go_wp2_with fail
       refine bodyPost_ret (v := .tuple #[.agg #[.int .i64 0, .int .i64 0, .slice none 0 0], .int .i64 (-1)]) (by simp [results, Tryz.results75, go_sem, *]) rfl (HNO.out _ ?_)
       exact bSet3 HB5.out (Nat.le_refl _) _ _ _ _ _ _
     ·replace HNO := tuck (HNO.out (by rw [HPT.out, hp]; unfold rOut; dsimp only; rw [if_pos hn, hq]; exact if_neg (fun h => hm1 h.2.1)))
      clear HYES HPT hp hq HR2
      go_enter Tryz.func75, Tryz.ntmps75
      go_wp2_with fail
      generalize w.alloc (.cells #[.int .i64 0, .int .i64 0, .slice none 0 0] 25) = W1 at *
      refine (HCO.out _).mono ?_
      rintro e wq ⟨rfl, hwq⟩
      have hwq' := hwq.symm
      subst hwq'
      go_wp2_with fail
      refine (HR1.out _).mono ?_
      rintro e w3 ⟨hb3, T, ta, tc, nx, rfl, hs3, hm⟩
      have hbx := below1 w3 (.cells #[.int .i64 T.kind, .int .i64 T.num, .slice ta T.kids.length tc] 25)
      have HV3 := tuck ((HV1.out.below hb3).below hbx)
      have HVT := tuck (VarAt.new w3 T.kind T.num (.slice ta T.kids.length tc))
      have HB3 := tuck (bAfter HB1.out (bAfter hb3 hbx))
      have HZ1 : Hid (w.heap.size + 1 ≤ W1.heap.size) := tuck HV1.out.facts.1
      have HS3 := tuck (hs3.below hbx)
      obtain ⟨z1, r0, r1, r2, rf⟩ := HV3.out.facts
      clear hb3 hs3 hbx HR1
      obtain ⟨rfl, rfl, hle⟩ := hm
      have hg1 : decide ((n : Int) < 0) = false := decide_eq_false (by omega)
      have hg2 : decide ((s.size : Int) ≤ (n : Int)) = false := decide_eq_false (by omega)
      have hg3 : ¬ (s.size : Int) ≤ (n : Int) := by omega
      have hg4 : (n : Int) < (s.size : Int) := by omega
      have HZ3 : Hid (w.heap.size + 1 ≤ (w3.alloc (.cells #[.int .i64 T.kind, .int .i64 T.num, .slice ta T.kids.length tc] 25)).heap.size) := tuck z1
      go_wp2_with fail
      refine (HR2'.out _).mono ?_
      rintro e w5 ⟨hb5, U, ua, uc, ny, rfl, hs5, hm2⟩
      have hby := below1 w5 (.cells #[.int .i64 U.kind, .int .i64 U.num, .slice ua U.kids.length uc] 25)
      have HV5 := tuck ((HV3.out.below hb5).below hby)
      have HVT5 := tuck ((HVT.out.below hb5).below hby)
      have HVU5 := tuck (VarAt.new w5 U.kind U.num (.slice ua U.kids.length uc))
      have HB5 := tuck (bAfter HB3.out (bAfter hb5 hby))
      have HST := tuck ((HS3.out.below hb5).below hby)
      have HSU := tuck (hs5.below hby)
      have HM2 := tuck hm2
      clear z1 r0 r1 r2 rf
      obtain ⟨z1, r0, r1, r2, rf⟩ := HV5.out.facts
      clear hb5 hby hs5 hm2
      obtain ⟨rfl, rfl, hle2⟩ := HM2.out
      have k1 : decide ((m : Int) < 0) = false := decide_eq_false (by omega)
      have k2 : decide ((s.size : Int) ≤ (m : Int)) = true := decide_eq_true (by omega)
      go_wp2_with fail
      refine bodyPost_ret (v := .tuple #[.agg #[.int .i64 0, .int .i64 0, .slice none 0 0], .int .i64 (-1)]) (by simp [results, Tryz.results75, go_sem, *]) rfl (HNO.out _ ?_)
      exact bSet3 HB5.out (Nat.le_refl _) _ _ _ _ _ _
   have HRK : Hid (bindKind (byteAt s n) = 0) := tuck (by rw [byteAt_eq hn]; unfold bindKind; rw [if_neg h62, if_neg h42])
   have g62 : ((s[n].toNat : Int) == 62) = false := by rw [beq_eq_false_iff_ne]; omega
   have g42 : ((s[n].toNat : Int) == 42) = false := by rw [beq_eq_false_iff_ne]; omega
   replace HNO := tuck (HNO.out (by rw [HPT.out, hp]; unfold rOut; dsimp only; rw [if_pos hn]; cases f2 (n + 1) with | none => rfl | some y => exact if_neg (fun h => h.1 HRK.out)))
   clear HYES HPT hp
   go_enter Tryz.func75, Tryz.ntmps75
   go_wp2_with fail
   generalize w.alloc (.cells #[.int .i64 0, .int .i64 0, .slice none 0 0] 25) = W1 at *
   refine (HCO.out _).mono ?_
   rintro e wq ⟨rfl, hwq⟩
   have hwq' := hwq.symm
   subst hwq'
   go_wp2_with fail
   refine (HR1.out _).mono ?_
   rintro e w3 ⟨hb3, T, ta, tc, nx, rfl, hs3, hm⟩
   have hbx := below1 w3 (.cells #[.int .i64 T.kind, .int .i64 T.num, .slice ta T.kids.length tc] 25)
   have HV3 := tuck ((HV1.out.below hb3).below hbx)
   have HVT := tuck (VarAt.new w3 T.kind T.num (.slice ta T.kids.length tc))
   have HB3 := tuck (bAfter HB1.out (bAfter hb3 hbx))
   have HZ1 : Hid (w.heap.size + 1 ≤ W1.heap.size) := tuck HV1.out.facts.1
   have HS3 := tuck (hs3.below hbx)
   obtain ⟨z1, r0, r1, r2, rf⟩ := HV3.out.facts
   clear hb3 hs3 hbx HR1
   obtain ⟨rfl, rfl, hle⟩ := hm
   have hg1 : decide ((n : Int) < 0) = false := decide_eq_false (by omega)
   have hg2 : decide ((s.size : Int) ≤ (n : Int)) = false := decide_eq_false (by omega)
   have hg3 : ¬ (s.size : Int) ≤ (n : Int) := by omega
   have hg4 : (n : Int) < (s.size : Int) := by omega
   have HZ3 : Hid (w.heap.size + 1 ≤ (w3.alloc (.cells #[.int .i64 T.kind, .int .i64 T.num, .slice ta T.kids.length tc] 25)).heap.size) := tuck z1
   go_wp2_with fail
   refine (HR2.out n _).mono ?_
   rintro e w5 ⟨hb5, U, ua, uc, ny, rfl, hs5, hm2⟩
   have hby := below1 w5 (.cells #[.int .i64 U.kind, .int .i64 U.num, .slice ua U.kids.length uc] 25)
   have HV5 := tuck ((HV3.out.below hb5).below hby)
   have HVT5 := tuck ((HVT.out.below hb5).below hby)
   have HVU5 := tuck (VarAt.new w5 U.kind U.num (.slice ua U.kids.length uc))
   have HB5 := tuck (bAfter HB3.out (bAfter hb5 hby))
   have HST := tuck ((HS3.out.below hb5).below hby)
   have HSU := tuck (hs5.below hby)
   have HM2 := tuck hm2
   clear z1 r0 r1 r2 rf
   obtain ⟨z1, r0, r1, r2, rf⟩ := HV5.out.facts
   clear hb5 hby hs5 hm2
   go_wp2_with fail
   refine bodyPost_ret (v := .tuple #[.agg #[.int .i64 0, .int .i64 0, .slice none 0 0], .int .i64 (-1)]) (by simp [results, Tryz.results75, go_sem, *]) rfl (HNO.out _ ?_)
   exact bSet3 HB5.out (Nat.le_refl _) _ _ _ _ _ _
  ·replace HNO := tuck (HNO.out (by rw [HPT.out, hp]; unfold rOut; exact if_neg hn))
   clear HYES HPT hp HR2
   go_enter Tryz.func75, Tryz.ntmps75
   go_wp2_with fail
   generalize w.alloc (.cells #[.int .i64 0, .int .i64 0, .slice none 0 0] 25) = W1 at *
   refine (HCO.out _).mono ?_
   rintro e wq ⟨rfl, hwq⟩
   have hwq' := hwq.symm
   subst hwq'
   go_wp2_with fail
   refine (HR1.out _).mono ?_
   rintro e w3 ⟨hb3, T, ta, tc, nx, rfl, hs3, hm⟩
   have hbx := below1 w3 (.cells #[.int .i64 T.kind, .int .i64 T.num, .slice ta T.kids.length tc] 25)
   have HV3 := tuck ((HV1.out.below hb3).below hbx)
   have HVT := tuck (VarAt.new w3 T.kind T.num (.slice ta T.kids.length tc))
   have HB3 := tuck (bAfter HB1.out (bAfter hb3 hbx))
   have HZ1 : Hid (w.heap.size + 1 ≤ W1.heap.size) := tuck HV1.out.facts.1
   have HS3 := tuck (hs3.below hbx)
   obtain ⟨z1, r0, r1, r2, rf⟩ := HV3.out.facts
   clear hb3 hs3 hbx HR1
   obtain ⟨rfl, rfl, hle⟩ := hm
   have hg1 : decide ((n : Int) < 0) = false := decide_eq_false (by omega)
   have hg2 : decide ((s.size : Int) ≤ (n : Int)) = true := decide_eq_true (by omega)
   have hg3 : (s.size : Int) ≤ (n : Int) := by omega
   go_wp2_with fail
   refine bodyPost_ret (v := .tuple #[.agg #[.int .i64 0, .int .i64 0, .slice none 0 0], .int .i64 (-1)]) (by simp [results, Tryz.results75, go_sem, *]) rfl (HNO.out _ ?_)
   exact bSet3 HB3.out (Nat.le_refl _) _ _ _ _ _ _
end Go.Proofs.YtjdmfegdgpbkgaaGreat
