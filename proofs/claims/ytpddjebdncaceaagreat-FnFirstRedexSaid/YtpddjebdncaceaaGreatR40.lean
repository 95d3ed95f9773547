/-
  ParseB.
-/
import Derived.Test.YtpddjebdncaceaaGreatR39
namespace Go.Proofs.YtpddjebdncaceaaGreat
open Go.RowKit
theorem PPost.zero {s : ByteArray} {w w' : World} (hb : Below w.heap.size w w') : PPost s w none (.returned (.tuple #[.agg #[.int .i64 0, .int .i64 0, .slice none 0 0], .int .i64 (-1)])) w' :=
 ⟨hb, zeroT, none, 0, -1, rfl, SlIn.nil _ _ _ _, rfl⟩
set_option maxRecDepth 100000 in
set_option maxHeartbeats 4000000 in
theorem round_any (s : ByteArray) (hs : s.size ≤ 1152921504606846976) (d : Nat) (hrec : ParseOk s d) (a : Nat) (w : World) :
  Calls Tryz.prog 141 #[.string s, .int .i64 a, .int .i64 d] w (PPost s w (ptRound s (pt s d) a)) := by
 have HR1 : Hid (∀ W, Calls Tryz.prog 129 #[.string s, .int .i64 a, .int .i64 d] W (PPost s W (pt s d a))) := tuck fun W => hrec a W
 have HR2 : Hid (∀ (n : Nat) W, Calls Tryz.prog 129 #[.string s, .int .i64 ((n : Int) + 1), .int .i64 d] W (PPost s W (pt s d (n + 1)))) := tuck fun n W => by have := hrec (n + 1) W; rwa [show ((n + 1 : Nat) : Int) = (n : Int) + 1 by omega] at this
 have HNO : Hid (ptRound s (pt s d) a = none → ∀ w', Below w.heap.size w w' → PPost s w (ptRound s (pt s d) a) (.returned (.tuple #[.agg #[.int .i64 0, .int .i64 0, .slice none 0 0], .int .i64 (-1)])) w') := tuck fun h w' hb => by rw [h]; exact PPost.zero hb
 have HYES : Hid (∀ (K : Int) (T U : Tm) (n : Nat), ptRound s (pt s d) a = some (.mk K 0 [T, U], n + 1) → n + 1 ≤ s.size → ∀ w' (a' : Option Addr) (c' : Nat), Below w.heap.size w w' → SlIn w' w.heap.size [T, U] (.slice a' 2 c') → PPost s w (ptRound s (pt s d) a) (.returned (.tuple #[.agg #[.int .i64 K, .int .i64 0, .slice a' 2 c'], .int .i64 ((n : Int) + 1)])) w') := tuck fun K T U n h hn w' a' c' hb hs' => by
  rw [h]; exact ⟨hb, .mk K 0 [T, U], a', c', _, rfl, hs', rfl, by show (n : Int) + 1 = ((n + 1 : Nat) : Int); omega, hn⟩
 have HPT : Hid (ptRound s (pt s d) a = match pt s d a with
  | none => none
  | some x => if x.2 < s.size then (match pt s d (x.2 + 1) with
   | none => none
   | some y => if roundKind (byteAt s x.2) ≠ 0 ∧ y.2 < s.size ∧ byteAt s y.2 = 41 then some (.mk (roundKind (byteAt s x.2)) 0 [x.1, y.1], y.2 + 1) else none) else none) := tuck rfl
 have HB1 := tuck (below1 w (.cells #[.int .i64 0, .int .i64 0, .slice none 0 0] 34))
 have HV1 := tuck (VarAt.new w 0 0 (.slice none 0 0))
 generalize PPost s w (ptRound s (pt s d) a) = post at *
 clear hrec
 cases hp : pt s d a with
 | none =>
  rw [hp] at HR1
  replace HNO := tuck (HNO.out (by rw [HPT.out, hp]))
  clear HYES HPT hp HR2
  go_enter Tryz.func141, Tryz.ntmps141
  go_wp2_with fail
  generalize w.alloc (.cells #[.int .i64 0, .int .i64 0, .slice none 0 0] 34) = W1 at *
  refine (HR1.out _).mono ?_
  rintro e w3 ⟨hb3, T, ta, tc, nx, rfl, hs3, hm⟩
  have hbx := below1 w3 (.cells #[.int .i64 T.kind, .int .i64 T.num, .slice ta T.kids.length tc] 34)
  have HV3 := tuck ((HV1.out.below hb3).below hbx)
  have HVT := tuck (VarAt.new w3 T.kind T.num (.slice ta T.kids.length tc))
  have HB3 := tuck (bAfter HB1.out (bAfter hb3 hbx))
  have HZ1 : Hid (w.heap.size + 1 ≤ W1.heap.size) := tuck HV1.out.facts.1
  have HS3 := tuck (hs3.below hbx)
  obtain ⟨z1, r0, r1, r2, rf⟩ := HV3.out.facts
  clear hb3 hs3 hbx HR1
  obtain rfl : nx = -1 := hm
  go_wp2_with fail
  refine bodyPost_ret (v := .tuple #[.agg #[.int .i64 0, .int .i64 0, .slice none 0 0], .int .i64 (-1)]) (by simp [results, Tryz.results141, go_sem, *]) rfl (HNO.out _ ?_)
  exact bSet3 HB3.out (Nat.le_refl _) _ _ _ _ _ _
 | some x =>
  obtain ⟨X, n⟩ := x
  rw [hp] at HR1
  by_cases hn : n < s.size
  ·by_cases h62 : s[n].toNat = 62
   ·have HRK : Hid (roundKind (byteAt s n) = 3) := tuck (by rw [byteAt_eq hn]; unfold roundKind; rw [if_pos h62])
    have g62 : ((s[n].toNat : Int) == 62) = true := by rw [beq_iff_eq]; omega
    cases hq : pt s d (n + 1) with
    | none =>
     replace HNO := tuck (HNO.out (by rw [HPT.out, hp]; dsimp only; rw [if_pos hn, hq]))
     have HR2' : Hid (∀ W, Calls Tryz.prog 129 #[.string s, .int .i64 ((n : Int) + 1), .int .i64 d] W (PPost s W none)) := tuck fun W => by have := HR2.out n W; rwa [hq] at this
     clear HYES HPT hp hq HR2
     go_enter Tryz.func141, Tryz.ntmps141
     go_wp2_with fail
     generalize w.alloc (.cells #[.int .i64 0, .int .i64 0, .slice none 0 0] 34) = W1 at *
     refine (HR1.out _).mono ?_
     rintro e w3 ⟨hb3, T, ta, tc, nx, rfl, hs3, hm⟩
     have hbx := below1 w3 (.cells #[.int .i64 T.kind, .int .i64 T.num, .slice ta T.kids.length tc] 34)
     have HV3 := tuck ((HV1.out.below hb3).below hbx)
     have HVT := tuck (VarAt.new w3 T.kind T.num (.slice ta T.kids.length tc))
     have HB3 := tuck (bAfter HB1.out (bAfter hb3 hbx))
     have HZ1 : Hid (w.heap.size + 1 ≤ W1.heap.size) := tuck HV1.out.facts.1
     have HS3 := tuck (hs3.below hbx)
     obtain ⟨z1, r0, r1, r2, rf⟩ := HV3.out.facts
     clear hb3 hs3 hbx HR1
     obtain ⟨rfl, rfl, hle⟩ := hm
     have hg1 : decide ((n : Int) < 0) = false := decide_eq_false (by omega)
     have hg2 : decide ((s.size : Int) ≤ (n : Int)) = false := decide_eq_false (by omega)
     have hg3 : ¬ (s.size : Int) ≤ (n : Int) := by omega
     have hg4 : (n : Int) < (s.size : Int) := by omega
     have HZ3 : Hid (w.heap.size + 1 ≤ (w3.alloc (.cells #[.int .i64 T.kind, .int .i64 T.num, .slice ta T.kids.length tc] 34)).heap.size) := tuck z1
     go_wp2_with fail
     refine (HR2'.out _).mono ?_
     rintro e w5 ⟨hb5, U, ua, uc, ny, rfl, hs5, hm2⟩
     have hby := below1 w5 (.cells #[.int .i64 U.kind, .int .i64 U.num, .slice ua U.kids.length uc] 34)
     have HV5 := tuck ((HV3.out.below hb5).below hby)
     have HVT5 := tuck ((HVT.out.below hb5).below hby)
     have HVU5 := tuck (VarAt.new w5 U.kind U.num (.slice ua U.kids.length uc))
     have HB5 := tuck (bAfter HB3.out (bAfter hb5 hby))
     have HST := tuck ((HS3.out.below hb5).below hby)
     have HSU := tuck (hs5.below hby)
     have HM2 := tuck hm2
     clear z1 r0 r1 r2 rf
     obtain ⟨z1, r0, r1, r2, rf⟩ := HV5.out.facts
     clear hb5 hby hs5 hm2
     obtain rfl : ny = -1 := HM2.out
     go_wp2_with fail
     refine bodyPost_ret (v := .tuple #[.agg #[.int .i64 0, .int .i64 0, .slice none 0 0], .int .i64 (-1)]) (by simp [results, Tryz.results141, go_sem, *]) rfl (HNO.out _ ?_)
     exact bSet3 HB5.out (Nat.le_refl _) _ _ _ _ _ _
    | some y =>
     obtain ⟨Y, m⟩ := y
     have HR2' : Hid (∀ W, Calls Tryz.prog 129 #[.string s, .int .i64 ((n : Int) + 1), .int .i64 d] W (PPost s W (some (Y, m)))) := tuck fun W => by have := HR2.out n W; rwa [hq] at this
     by_cases hm1 : m < s.size
     ·by_cases h41 : s[m].toNat = 41
      ·have HPY : Hid (ptRound s (pt s d) a = some (.mk 3 0 [X, Y], m + 1)) := tuck (by rw [HPT.out, hp]; dsimp only; rw [if_pos hn, hq]; dsimp only; rw [if_pos ⟨by rw [HRK.out]; decide, hm1, by rw [byteAt_eq hm1]; exact h41⟩, HRK.out])
       replace HYES := tuck (HYES.out 3 X Y m HPY.out (by omega))
       clear HNO HPT hp hq HR2 HPY
       go_enter Tryz.func141, Tryz.ntmps141
       go_wp2_with fail
       generalize w.alloc (.cells #[.int .i64 0, .int .i64 0, .slice none 0 0] 34) = W1 at *
       refine (HR1.out _).mono ?_
       rintro e w3 ⟨hb3, T, ta, tc, nx, rfl, hs3, hm⟩
       have hbx := below1 w3 (.cells #[.int .i64 T.kind, .int .i64 T.num, .slice ta T.kids.length tc] 34)
       have HV3 := tuck ((HV1.out.below hb3).below hbx)
       have HVT := tuck (VarAt.new w3 T.kind T.num (.slice ta T.kids.length tc))
       have HB3 := tuck (bAfter HB1.out (bAfter hb3 hbx))
       have HZ1 : Hid (w.heap.size + 1 ≤ W1.heap.size) := tuck HV1.out.facts.1
       have HS3 := tuck (hs3.below hbx)
       obtain ⟨z1, r0, r1, r2, rf⟩ := HV3.out.facts
       clear hb3 hs3 hbx HR1
       obtain ⟨rfl, rfl, hle⟩ := hm
       have hg1 : decide ((n : Int) < 0) = false := decide_eq_false (by omega)
       have hg2 : decide ((s.size : Int) ≤ (n : Int)) = false := decide_eq_false (by omega)
       have hg3 : ¬ (s.size : Int) ≤ (n : Int) := by omega
       have hg4 : (n : Int) < (s.size : Int) := by omega
       have HZ3 : Hid (w.heap.size + 1 ≤ (w3.alloc (.cells #[.int .i64 T.kind, .int .i64 T.num, .slice ta T.kids.length tc] 34)).heap.size) := tuck z1
       go_wp2_with fail
       refine (HR2'.out _).mono ?_
       rintro e w5 ⟨hb5, U, ua, uc, ny, rfl, hs5, hm2⟩
       have hby := below1 w5 (.cells #[.int .i64 U.kind, .int .i64 U.num, .slice ua U.kids.length uc] 34)
       have HV5 := tuck ((HV3.out.below hb5).below hby)
       have HVT5 := tuck ((HVT.out.below hb5).below hby)
       have HVU5 := tuck (VarAt.new w5 U.kind U.num (.slice ua U.kids.length uc))
       have HB5 := tuck (bAfter HB3.out (bAfter hb5 hby))
       have HST := tuck ((HS3.out.below hb5).below hby)
       have HSU := tuck (hs5.below hby)
       have HM2 := tuck hm2
       clear z1 r0 r1 r2 rf
       obtain ⟨z1, r0, r1, r2, rf⟩ := HV5.out.facts
       clear hb5 hby hs5 hm2
       obtain ⟨rfl, rfl, hle2⟩ := HM2.out
       have k1 : decide ((m : Int) < 0) = false := decide_eq_false (by omega)
       have k2 : decide ((s.size : Int) ≤ (m : Int)) = false := decide_eq_false (by omega)
       have k3 : (m : Int) < (s.size : Int) := by omega
       have k4 : ((s[m].toNat : Int) != 41) = false := by rw [bne_eq_false_iff_eq]; omega
       have hbr := below1 (w5.alloc (.cells #[.int .i64 U.kind, .int .i64 U.num, .slice ua U.kids.length uc] 34)) (.cells #[.int .i64 T.kind, .int .i64 T.num, .slice ta T.kids.length tc, .int .i64 U.kind, .int .i64 U.num, .slice ua U.kids.length uc] 34)
       have HV6 := tuck (HV5.out.below hbr)
       have HB6 := tuck (bAfter HB5.out hbr)
       have hzt : w.heap.size + 1 ≤ W1.heap.size := HZ1.out
       have hzu := HZ3.out
       have HNODE : Hid (Calls Tryz.prog 86 #[.int .i64 3, .slice (some ⟨w5.heap.size + 1, 0, none⟩) 2 2] ((w5.alloc (.cells #[.int .i64 U.kind, .int .i64 U.num, .slice ua U.kids.length uc] 34)).alloc (.cells #[.int .i64 T.kind, .int .i64 T.num, .slice ta T.kids.length tc, .int .i64 U.kind, .int .i64 U.num, .slice ua U.kids.length uc] 34)) fun e w' => Below ((w5.alloc (.cells #[.int .i64 U.kind, .int .i64 U.num, .slice ua U.kids.length uc] 34)).alloc (.cells #[.int .i64 T.kind, .int .i64 T.num, .slice ta T.kids.length tc, .int .i64 U.kind, .int .i64 U.num, .slice ua U.kids.length uc] 34)).heap.size ((w5.alloc (.cells #[.int .i64 U.kind, .int .i64 U.num, .slice ua U.kids.length uc] 34)).alloc (.cells #[.int .i64 T.kind, .int .i64 T.num, .slice ta T.kids.length tc, .int .i64 U.kind, .int .i64 U.num, .slice ua U.kids.length uc] 34)) w' ∧ ∃ (a : Option Addr) (c : Nat), e = .returned (.agg #[.int .i64 3, .int .i64 0, .slice a 2 c]) ∧ SlX w' (fun i => i < w.heap.size + 1) [T, U] (.slice a 2 c)) := tuck (by
        have h := nodeX_any 3 [(T, .slice ta T.kids.length tc), (U, .slice ua U.kids.length uc)] ((w5.alloc (.cells #[.int .i64 U.kind, .int .i64 U.num, .slice ua U.kids.length uc] 34)).alloc (.cells #[.int .i64 T.kind, .int .i64 T.num, .slice ta T.kids.length tc, .int .i64 U.kind, .int .i64 U.num, .slice ua U.kids.length uc] 34)) (w5.alloc (.cells #[.int .i64 U.kind, .int .i64 U.num, .slice ua U.kids.length uc] 34)).heap.size 2 34 #[.int .i64 T.kind, .int .i64 T.num, .slice ta T.kids.length tc, .int .i64 U.kind, .int .i64 U.num, .slice ua U.kids.length uc] (fun i => i < w.heap.size + 1) (fun i hi => by have h1 := HB6.out.size; have h2 := HV6.out.facts.1; omega) (by simp) (by simp) (heap_new _ _) (by simp [cellsL]) (fun x hx => by
         simp only [List.mem_cons, List.not_mem_nil, or_false] at hx
         rcases hx with rfl | rfl
         ·exact SlX.of_sl (HST.out.below hbr) (fun i hi => by omega)
         ·exact SlX.of_sl (HSU.out.below hbr) (fun i hi => by omega))
        rw [show (w5.alloc (.cells #[.int .i64 U.kind, .int .i64 U.num, .slice ua U.kids.length uc] 34)).heap.size = w5.heap.size + 1 by simp] at h
        exact h)
       obtain ⟨zt, t0, t1, t2, -⟩ := HVT5.out.facts
       obtain ⟨zu, u0, u1, u2, -⟩ := HVU5.out.facts
       clear hbr hzt hzu
       go_wp2_with fail
       refine HNODE.out.mono ?_
       rintro e w7 ⟨hb7, xa, xc, rfl, hs7⟩
       clear z1 r0 r1 r2 rf
       obtain ⟨z1, r0, r1, r2, rf⟩ := (HV6.out.below hb7).facts
       have HB7 := tuck (bAfter HB6.out hb7)
       have HS7 := tuck (SlX.from hs7)
       clear hb7 hs7 HNODE
       go_wp2_with fail
       refine bodyPost_ret (v := .tuple #[.agg #[.int .i64 3, .int .i64 0, .slice xa 2 xc], .int .i64 ((m : Int) + 1)]) (by simp [results, Tryz.results141, go_sem, *]) rfl (HYES.out _ xa xc ?_ ?_)
       ·exact bSet3 HB7.out (Nat.le_refl _) _ _ _ _ _ _
       ·exact (SlIn.set3 HS7.out (Nat.lt_succ_self _)).mono (Nat.le_succ _)
      ·replace HNO := tuck (HNO.out (by rw [HPT.out, hp]; dsimp only; rw [if_pos hn, hq]; exact if_neg (fun h => h41 (by rw [← byteAt_eq hm1]; exact h.2.2))))
       clear HYES HPT hp hq HR2
       go_enter Tryz.func141, Tryz.ntmps141
       go_wp2_with fail
       generalize w.alloc (.cells #[.int .i64 0, .int .i64 0, .slice none 0 0] 34) = W1 at *
       refine (HR1.out _).mono ?_
       rintro e w3 ⟨hb3, T, ta, tc, nx, rfl, hs3, hm⟩
       have hbx := below1 w3 (.cells #[.int .i64 T.kind, .int .i64 T.num, .slice ta T.kids.length tc] 34)
       have HV3 := tuck ((HV1.out.below hb3).below hbx)
       have HVT := tuck (VarAt.new w3 T.kind T.num (.slice ta T.kids.length tc))
       have HB3 := tuck (bAfter HB1.out (bAfter hb3 hbx))
       have HZ1 : Hid (w.heap.size + 1 ≤ W1.heap.size) := tuck HV1.out.facts.1
       have HS3 := tuck (hs3.below hbx)
       obtain ⟨z1, r0, r1, r2, rf⟩ := HV3.out.facts
       clear hb3 hs3 hbx HR1
       obtain ⟨rfl, rfl, hle⟩ := hm
       have hg1 : decide ((n : Int) < 0) = false := decide_eq_false (by omega)
       have hg2 : decide ((s.size : Int) ≤ (n : Int)) = false := decide_eq_false (by omega)
       have hg3 : ¬ (s.size : Int) ≤ (n : Int) := by omega
       have hg4 : (n : Int) < (s.size : Int) := by omega
       have HZ3 : Hid (w.heap.size + 1 ≤ (w3.alloc (.cells #[.int .i64 T.kind, .int .i64 T.num, .slice ta T.kids.length tc] 34)).heap.size) := tuck z1
       go_wp2_with fail
       refine (HR2'.out _).mono ?_
       rintro e w5 ⟨hb5, U, ua, uc, ny, rfl, hs5, hm2⟩
       have hby := below1 w5 (.cells #[.int .i64 U.kind, .int .i64 U.num, .slice ua U.kids.length uc] 34)
       have HV5 := tuck ((HV3.out.below hb5).below hby)
       have HVT5 := tuck ((HVT.out.below hb5).below hby)
       have HVU5 := tuck (VarAt.new w5 U.kind U.num (.slice ua U.kids.length uc))
       have HB5 := tuck (bAfter HB3.out (bAfter hb5 hby))
       have HST := tuck ((HS3.out.below hb5).below hby)
       have HSU := tuck (hs5.below hby)
       have HM2 := tuck hm2
       clear z1 r0 r1 r2 rf
       obtain ⟨z1, r0, r1, r2, rf⟩ := HV5.out.facts
       clear hb5 hby hs5 hm2
       obtain ⟨rfl, rfl, hle2⟩ := HM2.out
       have k1 : decide ((m : Int) < 0) = false := decide_eq_false (by omega)
       have k2 : decide ((s.size : Int) ≤ (m : Int)) = false := decide_eq_false (by omega)
       have k3 : (m : Int) < (s.size : Int) := by omega
       have k4 : ((s[m].toNat : Int) != 41) = true := by rw [bne_iff_ne]; omega
       go_wp2_with fail
       refine bodyPost_ret (v := .tuple #[.agg #[.int .i64 0, .int .i64 0, .slice none 0 0], .int .i64 (-1)]) (by simp [results, Tryz.results141, go_sem, *]) rfl (HNO.out _ ?_)
       exact bSet3 HB5.out (Nat.le_refl _) _ _ _ _ _ _
     ·replace HNO := tuck (HNO.out (by rw [HPT.out, hp]; dsimp only; rw [if_pos hn, hq]; exact if_neg (fun h => hm1 h.2.1)))
      clear HYES HPT hp hq HR2
      go_enter Tryz.func141, Tryz.ntmps141
      go_wp2_with fail
      generalize w.alloc (.cells #[.int .i64 0, .int .i64 0, .slice none 0 0] 34) = W1 at *
      refine (HR1.out _).mono ?_
      rintro e w3 ⟨hb3, T, ta, tc, nx, rfl, hs3, hm⟩
      have hbx := below1 w3 (.cells #[.int .i64 T.kind, .int .i64 T.num, .slice ta T.kids.length tc] 34)
      have HV3 := tuck ((HV1.out.below hb3).below hbx)
      have HVT := tuck (VarAt.new w3 T.kind T.num (.slice ta T.kids.length tc))
      have HB3 := tuck (bAfter HB1.out (bAfter hb3 hbx))
      have HZ1 : Hid (w.heap.size + 1 ≤ W1.heap.size) := tuck HV1.out.facts.1
      have HS3 := tuck (hs3.below hbx)
      obtain ⟨z1, r0, r1, r2, rf⟩ := HV3.out.facts
      clear hb3 hs3 hbx HR1
      obtain ⟨rfl, rfl, hle⟩ := hm
      have hg1 : decide ((n : Int) < 0) = false := decide_eq_false (by omega)
      have hg2 : decide ((s.size : Int) ≤ (n : Int)) = false := decide_eq_false (by omega)
      have hg3 : ¬ (s.size : Int) ≤ (n : Int) := by omega
      have hg4 : (n : Int) < (s.size : Int) := by omega
      have HZ3 : Hid (w.heap.size + 1 ≤ (w3.alloc (.cells #[.int .i64 T.kind, .int .i64 T.num, .slice ta T.kids.length tc] 34)).heap.size) := tuck z1
      go_wp2_with fail
      refine (HR2'.out _).mono ?_
      rintro e w5 ⟨hb5, U, ua, uc, ny, rfl, hs5, hm2⟩
      have hby := below1 w5 (.cells #[.int .i64 U.kind, .int .i64 U.num, .slice ua U.kids.length uc] 34)
      have HV5 := tuck ((HV3.out.below hb5).below hby)
      have HVT5 := tuck ((HVT.out.below hb5).below hby)
      have HVU5 := tuck (VarAt.new w5 U.kind U.num (.slice ua U.kids.length uc))
      have HB5 := tuck (bAfter HB3.out (bAfter hb5 hby))
      have HST := tuck ((HS3.out.below hb5).below hby)
      have HSU := tuck (hs5.below hby)
      have HM2 := tuck hm2
      clear z1 r0 r1 r2 rf
      obtain ⟨z1, r0, r1, r2, rf⟩ := HV5.out.facts
      clear hb5 hby hs5 hm2
      obtain ⟨rfl, rfl, hle2⟩ := HM2.out
      have k1 : decide ((m : Int) < 0) = false := decide_eq_false (by omega)
      have k2 : decide ((s.size : Int) ≤ (m : Int)) = true := decide_eq_true (by omega)
      go_wp2_with fail
      refine bodyPost_ret (v := .tuple #[.agg #[.int .i64 0, .int .i64 0, .slice none 0 0], .int .i64 (-1)]) (by simp [results, Tryz.results141, go_sem, *]) rfl (HNO.out _ ?_)
      exact bSet3 HB5.out (Nat.le_refl _) _ _ _ _ _ _
   by_cases h42 : s[n].toNat = 42
   ·have HRK : Hid (roundKind (byteAt s n) = 13) := tuck (by rw [byteAt_eq hn]; unfold roundKind; rw [if_neg h62, if_pos h42])
    have g62 : ((s[n].toNat : Int) == 62) = false := by rw [beq_eq_false_iff_ne]; omega
    have g42 : ((s[n].toNat : Int) == 42) = true := by rw [beq_iff_eq]; omega
    cases hq : pt s d (n + 1) with
    | none =>
     replace HNO := tuck (HNO.out (by rw [HPT.out, hp]; dsimp only; rw [if_pos hn, hq]))
     have HR2' : Hid (∀ W, Calls Tryz.prog 129 #[.string s, .int .i64 ((n : Int) + 1), .int .i64 d] W (PPost s W none)) := tuck fun W => by have := HR2.out n W; rwa [hq] at this
     clear HYES HPT hp hq HR2
     go_enter Tryz.func141, Tryz.ntmps141
     go_wp2_with fail
     generalize w.alloc (.cells #[.int .i64 0, .int .i64 0, .slice none 0 0] 34) = W1 at *
     refine (HR1.out _).mono ?_
     rintro e w3 ⟨hb3, T, ta, tc, nx, rfl, hs3, hm⟩
     have hbx := below1 w3 (.cells #[.int .i64 T.kind, .int .i64 T.num, .slice ta T.kids.length tc] 34)
     have HV3 := tuck ((HV1.out.below hb3).below hbx)
     have HVT := tuck (VarAt.new w3 T.kind T.num (.slice ta T.kids.length tc))
     have HB3 := tuck (bAfter HB1.out (bAfter hb3 hbx))
     have HZ1 : Hid (w.heap.size + 1 ≤ W1.heap.size) := tuck HV1.out.facts.1
     have HS3 := tuck (hs3.below hbx)
     obtain ⟨z1, r0, r1, r2, rf⟩ := HV3.out.facts
     clear hb3 hs3 hbx HR1
     obtain ⟨rfl, rfl, hle⟩ := hm
     have hg1 : decide ((n : Int) < 0) = false := decide_eq_false (by omega)
     have hg2 : decide ((s.size : Int) ≤ (n : Int)) = false := decide_eq_false (by omega)
     have hg3 : ¬ (s.size : Int) ≤ (n : Int) := by omega
     have hg4 : (n : Int) < (s.size : Int) := by omega
     have HZ3 : Hid (w.heap.size + 1 ≤ (w3.alloc (.cells #[.int .i64 T.kind, .int .i64 T.num, .slice ta T.kids.length tc] 34)).heap.size) := tuck z1
     go_wp2_with fail
     refine (HR2'.out _).mono ?_
     rintro e w5 ⟨hb5, U, ua, uc, ny, rfl, hs5, hm2⟩
     have hby := below1 w5 (.cells #[.int .i64 U.kind, .int .i64 U.num, .slice ua U.kids.length uc] 34)
     have HV5 := tuck ((HV3.out.below hb5).below hby)
     have HVT5 := tuck ((HVT.out.below hb5).below hby)
     have HVU5 := tuck (VarAt.new w5 U.kind U.num (.slice ua U.kids.length uc))
     have HB5 := tuck (bAfter HB3.out (bAfter hb5 hby))
     have HST := tuck ((HS3.out.below hb5).below hby)
     have HSU := tuck (hs5.below hby)
     have HM2 := tuck hm2
     clear z1 r0 r1 r2 rf
     obtain ⟨z1, r0, r1, r2, rf⟩ := HV5.out.facts
     clear hb5 hby hs5 hm2
     obtain rfl : ny = -1 := HM2.out
     go_wp2_with fail
     refine bodyPost_ret (v := .tuple #[.agg #[.int .i64 0, .int .i64 0, .slice none 0 0], .int .i64 (-1)]) (by simp [results, Tryz.results141, go_sem, *]) rfl (HNO.out _ ?_)
     exact bSet3 HB5.out (Nat.le_refl _) _ _ _ _ _ _
    | some y =>
     obtain ⟨Y, m⟩ := y
     have HR2' : Hid (∀ W, Calls Tryz.prog 129 #[.string s, .int .i64 ((n : Int) + 1), .int .i64 d] W (PPost s W (some (Y, m)))) := tuck fun W => by have := HR2.out n W; rwa [hq] at this
     by_cases hm1 : m < s.size
     ·by_cases h41 : s[m].toNat = 41
      ·have HPY : Hid (ptRound s (pt s d) a = some (.mk 13 0 [X, Y], m + 1)) := tuck (by rw [HPT.out, hp]; dsimp only; rw [if_pos hn, hq]; dsimp only; rw [if_pos ⟨by rw [HRK.out]; decide, hm1, by rw [byteAt_eq hm1]; exact h41⟩, HRK.out])
       replace HYES := tuck (HYES.out 13 X Y m HPY.out (by omega))
       clear HNO HPT hp hq HR2 HPY
       go_enter Tryz.func141, Tryz.ntmps141
       go_wp2_with fail
       generalize w.alloc (.cells #[.int .i64 0, .int .i64 0, .slice none 0 0] 34) = W1 at *
       refine (HR1.out _).mono ?_
       rintro e w3 ⟨hb3, T, ta, tc, nx, rfl, hs3, hm⟩
       have hbx := below1 w3 (.cells #[.int .i64 T.kind, .int .i64 T.num, .slice ta T.kids.length tc] 34)
       have HV3 := tuck ((HV1.out.below hb3).below hbx)
       have HVT := tuck (VarAt.new w3 T.kind T.num (.slice ta T.kids.length tc))
       have HB3 := tuck (bAfter HB1.out (bAfter hb3 hbx))
       have HZ1 : Hid (w.heap.size + 1 ≤ W1.heap.size) := tuck HV1.out.facts.1
       have HS3 := tuck (hs3.below hbx)
       obtain ⟨z1, r0, r1, r2, rf⟩ := HV3.out.facts
       clear hb3 hs3 hbx HR1
       obtain ⟨rfl, rfl, hle⟩ := hm
       have hg1 : decide ((n : Int) < 0) = false := decide_eq_false (by omega)
       have hg2 : decide ((s.size : Int) ≤ (n : Int)) = false := decide_eq_false (by omega)
       have hg3 : ¬ (s.size : Int) ≤ (n : Int) := by omega
       have hg4 : (n : Int) < (s.size : Int) := by omega
       have HZ3 : Hid (w.heap.size + 1 ≤ (w3.alloc (.cells #[.int .i64 T.kind, .int .i64 T.num, .slice ta T.kids.length tc] 34)).heap.size) := tuck z1
       go_wp2_with fail
       refine (HR2'.out _).mono ?_
       rintro e w5 ⟨hb5, U, ua, uc, ny, rfl, hs5, hm2⟩
       have hby := below1 w5 (.cells #[.int .i64 U.kind, .int .i64 U.num, .slice ua U.kids.length uc] 34)
       have HV5 := tuck ((HV3.out.below hb5).below hby)
       have HVT5 := tuck ((HVT.out.below hb5).below hby)
       have HVU5 := tuck (VarAt.new w5 U.kind U.num (.slice ua U.kids.length uc))
       have HB5 := tuck (bAfter HB3.out (bAfter hb5 hby))
       have HST := tuck ((HS3.out.below hb5).below hby)
       have HSU := tuck (hs5.below hby)
       have HM2 := tuck hm2
       clear z1 r0 r1 r2 rf
       obtain ⟨z1, r0, r1, r2, rf⟩ := HV5.out.facts
       clear hb5 hby hs5 hm2
       obtain ⟨rfl, rfl, hle2⟩ := HM2.out
       have k1 : decide ((m : Int) < 0) = false := decide_eq_false (by omega)
       have k2 : decide ((s.size : Int) ≤ (m : Int)) = false := decide_eq_false (by omega)
       have k3 : (m : Int) < (s.size : Int) := by omega
       have k4 : ((s[m].toNat : Int) != 41) = false := by rw [bne_eq_false_iff_eq]; omega
       have hbr := below1 (w5.alloc (.cells #[.int .i64 U.kind, .int .i64 U.num, .slice ua U.kids.length uc] 34)) (.cells #[.int .i64 T.kind, .int .i64 T.num, .slice ta T.kids.length tc, .int .i64 U.kind, .int .i64 U.num, .slice ua U.kids.length uc] 34)
       have HV6 := tuck (HV5.out.below hbr)
       have HB6 := tuck (bAfter HB5.out hbr)
       have hzt : w.heap.size + 1 ≤ W1.heap.size := HZ1.out
       have hzu := HZ3.out
       have HNODE : Hid (Calls Tryz.prog 86 #[.int .i64 13, .slice (some ⟨w5.heap.size + 1, 0, none⟩) 2 2] ((w5.alloc (.cells #[.int .i64 U.kind, .int .i64 U.num, .slice ua U.kids.length uc] 34)).alloc (.cells #[.int .i64 T.kind, .int .i64 T.num, .slice ta T.kids.length tc, .int .i64 U.kind, .int .i64 U.num, .slice ua U.kids.length uc] 34)) fun e w' => Below ((w5.alloc (.cells #[.int .i64 U.kind, .int .i64 U.num, .slice ua U.kids.length uc] 34)).alloc (.cells #[.int .i64 T.kind, .int .i64 T.num, .slice ta T.kids.length tc, .int .i64 U.kind, .int .i64 U.num, .slice ua U.kids.length uc] 34)).heap.size ((w5.alloc (.cells #[.int .i64 U.kind, .int .i64 U.num, .slice ua U.kids.length uc] 34)).alloc (.cells #[.int .i64 T.kind, .int .i64 T.num, .slice ta T.kids.length tc, .int .i64 U.kind, .int .i64 U.num, .slice ua U.kids.length uc] 34)) w' ∧ ∃ (a : Option Addr) (c : Nat), e = .returned (.agg #[.int .i64 13, .int .i64 0, .slice a 2 c]) ∧ SlX w' (fun i => i < w.heap.size + 1) [T, U] (.slice a 2 c)) := tuck (by
        have h := nodeX_any 13 [(T, .slice ta T.kids.length tc), (U, .slice ua U.kids.length uc)] ((w5.alloc (.cells #[.int .i64 U.kind, .int .i64 U.num, .slice ua U.kids.length uc] 34)).alloc (.cells #[.int .i64 T.kind, .int .i64 T.num, .slice ta T.kids.length tc, .int .i64 U.kind, .int .i64 U.num, .slice ua U.kids.length uc] 34)) (w5.alloc (.cells #[.int .i64 U.kind, .int .i64 U.num, .slice ua U.kids.length uc] 34)).heap.size 2 34 #[.int .i64 T.kind, .int .i64 T.num, .slice ta T.kids.length tc, .int .i64 U.kind, .int .i64 U.num, .slice ua U.kids.length uc] (fun i => i < w.heap.size + 1) (fun i hi => by have h1 := HB6.out.size; have h2 := HV6.out.facts.1; omega) (by simp) (by simp) (heap_new _ _) (by simp [cellsL]) (fun x hx => by
         simp only [List.mem_cons, List.not_mem_nil, or_false] at hx
         rcases hx with rfl | rfl
         ·exact SlX.of_sl (HST.out.below hbr) (fun i hi => by omega)
         ·exact SlX.of_sl (HSU.out.below hbr) (fun i hi => by omega))
        rw [show (w5.alloc (.cells #[.int .i64 U.kind, .int .i64 U.num, .slice ua U.kids.length uc] 34)).heap.size = w5.heap.size + 1 by simp] at h
        exact h)
       obtain ⟨zt, t0, t1, t2, -⟩ := HVT5.out.facts
       obtain ⟨zu, u0, u1, u2, -⟩ := HVU5.out.facts
       clear hbr hzt hzu
       go_wp2_with fail
       refine HNODE.out.mono ?_
       rintro e w7 ⟨hb7, xa, xc, rfl, hs7⟩
       clear z1 r0 r1 r2 rf
       obtain ⟨z1, r0, r1, r2, rf⟩ := (HV6.out.below hb7).facts
       have HB7 := tuck (bAfter HB6.out hb7)
       have HS7 := tuck (SlX.from hs7)
       clear hb7 hs7 HNODE
       go_wp2_with fail
       refine bodyPost_ret (v := .tuple #[.agg #[.int .i64 13, .int .i64 0, .slice xa 2 xc], .int .i64 ((m : Int) + 1)]) (by simp [results, Tryz.results141, go_sem, *]) rfl (HYES.out _ xa xc ?_ ?_)
       ·exact bSet3 HB7.out (Nat.le_refl _) _ _ _ _ _ _
       ·exact (SlIn.set3 HS7.out (Nat.lt_succ_self _)).mono (Nat.le_succ _)
      ·replace HNO := tuck (HNO.out (by rw [HPT.out, hp]; dsimp only; rw [if_pos hn, hq]; exact if_neg (fun h => h41 (by rw [← byteAt_eq hm1]; exact h.2.2))))
       clear HYES HPT hp hq HR2
       go_enter Tryz.func141, Tryz.ntmps141
       go_wp2_with fail
       generalize w.alloc (.cells #[.int .i64 0, .int .i64 0, .slice none 0 0] 34) = W1 at *
       refine (HR1.out _).mono ?_
       rintro e w3 ⟨hb3, T, ta, tc, nx, rfl, hs3, hm⟩
       have hbx := below1 w3 (.cells #[.int .i64 T.kind, .int .i64 T.num, .slice ta T.kids.length tc] 34)
       have HV3 := tuck ((HV1.out.below hb3).below hbx)
       have HVT := tuck (VarAt.new w3 T.kind T.num (.slice ta T.kids.length tc))
       have HB3 := tuck (bAfter HB1.out (bAfter hb3 hbx))
       have HZ1 : Hid (w.heap.size + 1 ≤ W1.heap.size) := tuck HV1.out.facts.1
       have HS3 := tuck (hs3.below hbx)
       obtain ⟨z1, r0, r1, r2, rf⟩ := HV3.out.facts
       clear hb3 hs3 hbx HR1
       obtain ⟨rfl, rfl, hle⟩ := hm
       have hg1 : decide ((n : Int) < 0) = false := decide_eq_false (by omega)
       have hg2 : decide ((s.size : Int) ≤ (n : Int)) = false := decide_eq_false (by omega)
       have hg3 : ¬ (s.size : Int) ≤ (n : Int) := by omega
       have hg4 : (n : Int) < (s.size : Int) := by omega
       have HZ3 : Hid (w.heap.size + 1 ≤ (w3.alloc (.cells #[.int .i64 T.kind, .int .i64 T.num, .slice ta T.kids.length tc] 34)).heap.size) := tuck z1
       go_wp2_with fail
       refine (HR2'.out _).mono ?_
       rintro e w5 ⟨hb5, U, ua, uc, ny, rfl, hs5, hm2⟩
       have hby := below1 w5 (.cells #[.int .i64 U.kind, .int .i64 U.num, .slice ua U.kids.length uc] 34)
       have HV5 := tuck ((HV3.out.below hb5).below hby)
       have HVT5 := tuck ((HVT.out.below hb5).below hby)
       have HVU5 := tuck (VarAt.new w5 U.kind U.num (.slice ua U.kids.length uc))
       have HB5 := tuck (bAfter HB3.out (bAfter hb5 hby))
       have HST := tuck ((HS3.out.below hb5).below hby)
       have HSU := tuck (hs5.below hby)
       have HM2 := tuck hm2
       clear z1 r0 r1 r2 rf
       obtain ⟨z1, r0, r1, r2, rf⟩ := HV5.out.facts
       clear hb5 hby hs5 hm2
       obtain ⟨rfl, rfl, hle2⟩ := HM2.out
       have k1 : decide ((m : Int) < 0) = false := decide_eq_false (by omega)
       have k2 : decide ((s.size : Int) ≤ (m : Int)) = false := decide_eq_false (by omega)
       have k3 : (m : Int) < (s.size : Int) := by omega
       have k4 : ((s[m].toNat : Int) != 41) = true := by rw [bne_iff_ne]; omega
       go_wp2_with fail
       refine bodyPost_ret (v := .tuple #[.agg #[.int .i64 0, .int .i64 0, .slice none 0 0], .int .i64 (-1)]) (by simp [results, Tryz.results141, go_sem, *]) rfl (HNO.out _ ?_)
       exact bSet3 HB5.out (Nat.le_refl _) _ _ _ _ _ _
     ·replace HNO := tuck (HNO.out (by rw [HPT.out, hp]; dsimp only; rw [if_pos hn, hq]; exact if_neg (fun h => hm1 h.2.1)))
      clear HYES HPT hp hq HR2
      go_enter Tryz.func141, Tryz.ntmps141
      go_wp2_with fail
      generalize w.alloc (.cells #[.int .i64 0, .int .i64 0, .slice none 0 0] 34) = W1 at *
      refine (HR1.out _).mono ?_
      rintro e w3 ⟨hb3, T, ta, tc, nx, rfl, hs3, hm⟩
      have hbx := below1 w3 (.cells #[.int .i64 T.kind, .int .i64 T.num, .slice ta T.kids.length tc] 34)
      have HV3 := tuck ((HV1.out.below hb3).below hbx)
      have HVT := tuck (VarAt.new w3 T.kind T.num (.slice ta T.kids.length tc))
      have HB3 := tuck (bAfter HB1.out (bAfter hb3 hbx))
      have HZ1 : Hid (w.heap.size + 1 ≤ W1.heap.size) := tuck HV1.out.facts.1
      have HS3 := tuck (hs3.below hbx)
      obtain ⟨z1, r0, r1, r2, rf⟩ := HV3.out.facts
      clear hb3 hs3 hbx HR1
      obtain ⟨rfl, rfl, hle⟩ := hm
      have hg1 : decide ((n : Int) < 0) = false := decide_eq_false (by omega)
      have hg2 : decide ((s.size : Int) ≤ (n : Int)) = false := decide_eq_false (by omega)
      have hg3 : ¬ (s.size : Int) ≤ (n : Int) := by omega
      have hg4 : (n : Int) < (s.size : Int) := by omega
      have HZ3 : Hid (w.heap.size + 1 ≤ (w3.alloc (.cells #[.int .i64 T.kind, .int .i64 T.num, .slice ta T.kids.length tc] 34)).heap.size) := tuck z1
      go_wp2_with fail
      refine (HR2'.out _).mono ?_
      rintro e w5 ⟨hb5, U, ua, uc, ny, rfl, hs5, hm2⟩
      have hby := below1 w5 (.cells #[.int .i64 U.kind, .int .i64 U.num, .slice ua U.kids.length uc] 34)
      have HV5 := tuck ((HV3.out.below hb5).below hby)
      have HVT5 := tuck ((HVT.out.below hb5).below hby)
      have HVU5 := tuck (VarAt.new w5 U.kind U.num (.slice ua U.kids.length uc))
      have HB5 := tuck (bAfter HB3.out (bAfter hb5 hby))
      have HST := tuck ((HS3.out.below hb5).below hby)
      have HSU := tuck (hs5.below hby)
      have HM2 := tuck hm2
      clear z1 r0 r1 r2 rf
      obtain ⟨z1, r0, r1, r2, rf⟩ := HV5.out.facts
      clear hb5 hby hs5 hm2
      obtain ⟨rfl, rfl, hle2⟩ := HM2.out
      have k1 : decide ((m : Int) < 0) = false := decide_eq_false (by omega)
      have k2 : decide ((s.size : Int) ≤ (m : Int)) = true := decide_eq_true (by omega)
      go_wp2_with fail
      refine bodyPost_ret (v := .tuple #[.agg #[.int .i64 0, .int .i64 0, .slice none 0 0], .int .i64 (-1)]) (by simp [results, Tryz.results141, go_sem, *]) rfl (HNO.out _ ?_)
      exact bSet3 HB5.out (Nat.le_refl _) _ _ _ _ _ _
   by_cases h32 : s[n].toNat = 32
   ·have HRK : Hid (roundKind (byteAt s n) = 5) := tuck (by rw [byteAt_eq hn]; unfold roundKind; rw [if_neg h62, if_neg h42, if_pos h32])
    have g62 : ((s[n].toNat : Int) == 62) = false := by rw [beq_eq_false_iff_ne]; omega
    have g42 : ((s[n].toNat : Int) == 42) = false := by rw [beq_eq_false_iff_ne]; omega
    have g32 : ((s[n].toNat : Int) == 32) = true := by rw [beq_iff_eq]; omega
    cases hq : pt s d (n + 1) with
    | none =>
     replace HNO := tuck (HNO.out (by rw [HPT.out, hp]; dsimp only; rw [if_pos hn, hq]))
     have HR2' : Hid (∀ W, Calls Tryz.prog 129 #[.string s, .int .i64 ((n : Int) + 1), .int .i64 d] W (PPost s W none)) := tuck fun W => by have := HR2.out n W; rwa [hq] at this
     clear HYES HPT hp hq HR2
     go_enter Tryz.func141, Tryz.ntmps141
     go_wp2_with fail
     generalize w.alloc (.cells #[.int .i64 0, .int .i64 0, .slice none 0 0] 34) = W1 at *
     refine (HR1.out _).mono ?_
     rintro e w3 ⟨hb3, T, ta, tc, nx, rfl, hs3, hm⟩
     have hbx := below1 w3 (.cells #[.int .i64 T.kind, .int .i64 T.num, .slice ta T.kids.length tc] 34)
     have HV3 := tuck ((HV1.out.below hb3).below hbx)
     have HVT := tuck (VarAt.new w3 T.kind T.num (.slice ta T.kids.length tc))
     have HB3 := tuck (bAfter HB1.out (bAfter hb3 hbx))
     have HZ1 : Hid (w.heap.size + 1 ≤ W1.heap.size) := tuck HV1.out.facts.1
     have HS3 := tuck (hs3.below hbx)
     obtain ⟨z1, r0, r1, r2, rf⟩ := HV3.out.facts
     clear hb3 hs3 hbx HR1
     obtain ⟨rfl, rfl, hle⟩ := hm
     have hg1 : decide ((n : Int) < 0) = false := decide_eq_false (by omega)
     have hg2 : decide ((s.size : Int) ≤ (n : Int)) = false := decide_eq_false (by omega)
     have hg3 : ¬ (s.size : Int) ≤ (n : Int) := by omega
     have hg4 : (n : Int) < (s.size : Int) := by omega
     have HZ3 : Hid (w.heap.size + 1 ≤ (w3.alloc (.cells #[.int .i64 T.kind, .int .i64 T.num, .slice ta T.kids.length tc] 34)).heap.size) := tuck z1
     go_wp2_with fail
     refine (HR2'.out _).mono ?_
     rintro e w5 ⟨hb5, U, ua, uc, ny, rfl, hs5, hm2⟩
     have hby := below1 w5 (.cells #[.int .i64 U.kind, .int .i64 U.num, .slice ua U.kids.length uc] 34)
     have HV5 := tuck ((HV3.out.below hb5).below hby)
     have HVT5 := tuck ((HVT.out.below hb5).below hby)
     have HVU5 := tuck (VarAt.new w5 U.kind U.num (.slice ua U.kids.length uc))
     have HB5 := tuck (bAfter HB3.out (bAfter hb5 hby))
     have HST := tuck ((HS3.out.below hb5).below hby)
     have HSU := tuck (hs5.below hby)
     have HM2 := tuck hm2
     clear z1 r0 r1 r2 rf
     obtain ⟨z1, r0, r1, r2, rf⟩ := HV5.out.facts
     clear hb5 hby hs5 hm2
     obtain rfl : ny = -1 := HM2.out
     go_wp2_with fail
     refine bodyPost_ret (v := .tuple #[.agg #[.int .i64 0, .int .i64 0, .slice none 0 0], .int .i64 (-1)]) (by simp [results, Tryz.results141, go_sem, *]) rfl (HNO.out _ ?_)
     exact bSet3 HB5.out (Nat.le_refl _) _ _ _ _ _ _
    | some y =>
     obtain ⟨Y, m⟩ := y
     have HR2' : Hid (∀ W, Calls Tryz.prog 129 #[.string s, .int .i64 ((n : Int) + 1), .int .i64 d] W (PPost s W (some (Y, m)))) := tuck fun W => by have := HR2.out n W; rwa [hq] at this
     by_cases hm1 : m < s.size
     ·by_cases h41 : s[m].toNat = 41
      ·have HPY : Hid (ptRound s (pt s d) a = some (.mk 5 0 [X, Y], m + 1)) := tuck (by rw [HPT.out, hp]; dsimp only; rw [if_pos hn, hq]; dsimp only; rw [if_pos ⟨by rw [HRK.out]; decide, hm1, by rw [byteAt_eq hm1]; exact h41⟩, HRK.out])
       replace HYES := tuck (HYES.out 5 X Y m HPY.out (by omega))
       clear HNO HPT hp hq HR2 HPY
       go_enter Tryz.func141, Tryz.ntmps141
       go_wp2_with fail
       generalize w.alloc (.cells #[.int .i64 0, .int .i64 0, .slice none 0 0] 34) = W1 at *
       refine (HR1.out _).mono ?_
       rintro e w3 ⟨hb3, T, ta, tc, nx, rfl, hs3, hm⟩
       have hbx := below1 w3 (.cells #[.int .i64 T.kind, .int .i64 T.num, .slice ta T.kids.length tc] 34)
       have HV3 := tuck ((HV1.out.below hb3).below hbx)
       have HVT := tuck (VarAt.new w3 T.kind T.num (.slice ta T.kids.length tc))
       have HB3 := tuck (bAfter HB1.out (bAfter hb3 hbx))
       have HZ1 : Hid (w.heap.size + 1 ≤ W1.heap.size) := tuck HV1.out.facts.1
       have HS3 := tuck (hs3.below hbx)
       obtain ⟨z1, r0, r1, r2, rf⟩ := HV3.out.facts
       clear hb3 hs3 hbx HR1
       obtain ⟨rfl, rfl, hle⟩ := hm
       have hg1 : decide ((n : Int) < 0) = false := decide_eq_false (by omega)
       have hg2 : decide ((s.size : Int) ≤ (n : Int)) = false := decide_eq_false (by omega)
       have hg3 : ¬ (s.size : Int) ≤ (n : Int) := by omega
       have hg4 : (n : Int) < (s.size : Int) := by omega
       have HZ3 : Hid (w.heap.size + 1 ≤ (w3.alloc (.cells #[.int .i64 T.kind, .int .i64 T.num, .slice ta T.kids.length tc] 34)).heap.size) := tuck z1
       go_wp2_with fail
       refine (HR2'.out _).mono ?_
       rintro e w5 ⟨hb5, U, ua, uc, ny, rfl, hs5, hm2⟩
       have hby := below1 w5 (.cells #[.int .i64 U.kind, .int .i64 U.num, .slice ua U.kids.length uc] 34)
       have HV5 := tuck ((HV3.out.below hb5).below hby)
       have HVT5 := tuck ((HVT.out.below hb5).below hby)
       have HVU5 := tuck (VarAt.new w5 U.kind U.num (.slice ua U.kids.length uc))
       have HB5 := tuck (bAfter HB3.out (bAfter hb5 hby))
       have HST := tuck ((HS3.out.below hb5).below hby)
       have HSU := tuck (hs5.below hby)
       have HM2 := tuck hm2
       clear z1 r0 r1 r2 rf
       obtain ⟨z1, r0, r1, r2, rf⟩ := HV5.out.facts
       clear hb5 hby hs5 hm2
       obtain ⟨rfl, rfl, hle2⟩ := HM2.out
       have k1 : decide ((m : Int) < 0) = false := decide_eq_false (by omega)
       have k2 : decide ((s.size : Int) ≤ (m : Int)) = false := decide_eq_false (by omega)
       have k3 : (m : Int) < (s.size : Int) := by omega
       have k4 : ((s[m].toNat : Int) != 41) = false := by rw [bne_eq_false_iff_eq]; omega
       have hbr := below1 (w5.alloc (.cells #[.int .i64 U.kind, .int .i64 U.num, .slice ua U.kids.length uc] 34)) (.cells #[.int .i64 T.kind, .int .i64 T.num, .slice ta T.kids.length tc, .int .i64 U.kind, .int .i64 U.num, .slice ua U.kids.length uc] 34)
       have HV6 := tuck (HV5.out.below hbr)
       have HB6 := tuck (bAfter HB5.out hbr)
       have hzt : w.heap.size + 1 ≤ W1.heap.size := HZ1.out
       have hzu := HZ3.out
       have HNODE : Hid (Calls Tryz.prog 86 #[.int .i64 5, .slice (some ⟨w5.heap.size + 1, 0, none⟩) 2 2] ((w5.alloc (.cells #[.int .i64 U.kind, .int .i64 U.num, .slice ua U.kids.length uc] 34)).alloc (.cells #[.int .i64 T.kind, .int .i64 T.num, .slice ta T.kids.length tc, .int .i64 U.kind, .int .i64 U.num, .slice ua U.kids.length uc] 34)) fun e w' => Below ((w5.alloc (.cells #[.int .i64 U.kind, .int .i64 U.num, .slice ua U.kids.length uc] 34)).alloc (.cells #[.int .i64 T.kind, .int .i64 T.num, .slice ta T.kids.length tc, .int .i64 U.kind, .int .i64 U.num, .slice ua U.kids.length uc] 34)).heap.size ((w5.alloc (.cells #[.int .i64 U.kind, .int .i64 U.num, .slice ua U.kids.length uc] 34)).alloc (.cells #[.int .i64 T.kind, .int .i64 T.num, .slice ta T.kids.length tc, .int .i64 U.kind, .int .i64 U.num, .slice ua U.kids.length uc] 34)) w' ∧ ∃ (a : Option Addr) (c : Nat), e = .returned (.agg #[.int .i64 5, .int .i64 0, .slice a 2 c]) ∧ SlX w' (fun i => i < w.heap.size + 1) [T, U] (.slice a 2 c)) := tuck (by
        have h := nodeX_any 5 [(T, .slice ta T.kids.length tc), (U, .slice ua U.kids.length uc)] ((w5.alloc (.cells #[.int .i64 U.kind, .int .i64 U.num, .slice ua U.kids.length uc] 34)).alloc (.cells #[.int .i64 T.kind, .int .i64 T.num, .slice ta T.kids.length tc, .int .i64 U.kind, .int .i64 U.num, .slice ua U.kids.length uc] 34)) (w5.alloc (.cells #[.int .i64 U.kind, .int .i64 U.num, .slice ua U.kids.length uc] 34)).heap.size 2 34 #[.int .i64 T.kind, .int .i64 T.num, .slice ta T.kids.length tc, .int .i64 U.kind, .int .i64 U.num, .slice ua U.kids.length uc] (fun i => i < w.heap.size + 1) (fun i hi => by have h1 := HB6.out.size; have h2 := HV6.out.facts.1; omega) (by simp) (by simp) (heap_new _ _) (by simp [cellsL]) (fun x hx => by
         simp only [List.mem_cons, List.not_mem_nil, or_false] at hx
         rcases hx with rfl | rfl
         ·exact SlX.of_sl (HST.out.below hbr) (fun i hi => by omega)
         ·exact SlX.of_sl (HSU.out.below hbr) (fun i hi => by omega))
        rw [show (w5.alloc (.cells #[.int .i64 U.kind, .int .i64 U.num, .slice ua U.kids.length uc] 34)).heap.size = w5.heap.size + 1 by simp] at h
        exact h)
       obtain ⟨zt, t0, t1, t2, -⟩ := HVT5.out.facts
       obtain ⟨zu, u0, u1, u2, -⟩ := HVU5.out.facts
       clear hbr hzt hzu
       go_wp2_with fail
       refine HNODE.out.mono ?_
       rintro e w7 ⟨hb7, xa, xc, rfl, hs7⟩
       clear z1 r0 r1 r2 rf
       obtain ⟨z1, r0, r1, r2, rf⟩ := (HV6.out.below hb7).facts
       have HB7 := tuck (bAfter HB6.out hb7)
       have HS7 := tuck (SlX.from hs7)
       clear hb7 hs7 HNODE
       go_wp2_with fail
       refine bodyPost_ret (v := .tuple #[.agg #[.int .i64 5, .int .i64 0, .slice xa 2 xc], .int .i64 ((m : Int) + 1)]) (by simp [results, Tryz.results141, go_sem, *]) rfl (HYES.out _ xa xc ?_ ?_)
       ·exact bSet3 HB7.out (Nat.le_refl _) _ _ _ _ _ _
       ·exact (SlIn.set3 HS7.out (Nat.lt_succ_self _)).mono (Nat.le_succ _)
      ·replace HNO := tuck (HNO.out (by rw [HPT.out, hp]; dsimp only; rw [if_pos hn, hq]; exact if_neg (fun h => h41 (by rw [← byteAt_eq hm1]; exact h.2.2))))
       clear HYES HPT hp hq HR2
       go_enter Tryz.func141, Tryz.ntmps141
       go_wp2_with fail
       generalize w.alloc (.cells #[.int .i64 0, .int .i64 0, .slice none 0 0] 34) = W1 at *
       refine (HR1.out _).mono ?_
       rintro e w3 ⟨hb3, T, ta, tc, nx, rfl, hs3, hm⟩
       have hbx := below1 w3 (.cells #[.int .i64 T.kind, .int .i64 T.num, .slice ta T.kids.length tc] 34)
       have HV3 := tuck ((HV1.out.below hb3).below hbx)
       have HVT := tuck (VarAt.new w3 T.kind T.num (.slice ta T.kids.length tc))
       have HB3 := tuck (bAfter HB1.out (bAfter hb3 hbx))
       have HZ1 : Hid (w.heap.size + 1 ≤ W1.heap.size) := tuck HV1.out.facts.1
       have HS3 := tuck (hs3.below hbx)
       obtain ⟨z1, r0, r1, r2, rf⟩ := HV3.out.facts
       clear hb3 hs3 hbx HR1
       obtain ⟨rfl, rfl, hle⟩ := hm
       have hg1 : decide ((n : Int) < 0) = false := decide_eq_false (by omega)
       have hg2 : decide ((s.size : Int) ≤ (n : Int)) = false := decide_eq_false (by omega)
       have hg3 : ¬ (s.size : Int) ≤ (n : Int) := by omega
       have hg4 : (n : Int) < (s.size : Int) := by omega
       have HZ3 : Hid (w.heap.size + 1 ≤ (w3.alloc (.cells #[.int .i64 T.kind, .int .i64 T.num, .slice ta T.kids.length tc] 34)).heap.size) := tuck z1
       go_wp2_with fail
       refine (HR2'.out _).mono ?_
       rintro e w5 ⟨hb5, U, ua, uc, ny, rfl, hs5, hm2⟩
       have hby := below1 w5 (.cells #[.int .i64 U.kind, .int .i64 U.num, .slice ua U.kids.length uc] 34)
       have HV5 := tuck ((HV3.out.below hb5).below hby)
       have HVT5 := tuck ((HVT.out.below hb5).below hby)
       have HVU5 := tuck (VarAt.new w5 U.kind U.num (.slice ua U.kids.length uc))
       have HB5 := tuck (bAfter HB3.out (bAfter hb5 hby))
       have HST := tuck ((HS3.out.below hb5).below hby)
       have HSU := tuck (hs5.below hby)
       have HM2 := tuck hm2
       clear z1 r0 r1 r2 rf
       obtain ⟨z1, r0, r1, r2, rf⟩ := HV5.out.facts
       clear hb5 hby hs5 hm2
       obtain ⟨rfl, rfl, hle2⟩ := HM2.out
       have k1 : decide ((m : Int) < 0) = false := decide_eq_false (by omega)
       have k2 : decide ((s.size : Int) ≤ (m : Int)) = false := decide_eq_false (by omega)
       have k3 : (m : Int) < (s.size : Int) := by omega
       have k4 : ((s[m].toNat : Int) != 41) = true := by rw [bne_iff_ne]; omega
       go_wp2_with fail
       refine bodyPost_ret (v := .tuple #[.agg #[.int .i64 0, .int .i64 0, .slice none 0 0], .int .i64 (-1)]) (by simp [results, Tryz.results141, go_sem, *]) rfl (HNO.out _ ?_)
       exact bSet3 HB5.out (Nat.le_refl _) _ _ _ _ _ _
     ·replace HNO := tuck (HNO.out (by rw [HPT.out, hp]; dsimp only; rw [if_pos hn, hq]; exact if_neg (fun h => hm1 h.2.1)))
      clear HYES HPT hp hq HR2
      go_enter Tryz.func141, Tryz.ntmps141
      go_wp2_with fail
      generalize w.alloc (.cells #[.int .i64 0, .int .i64 0, .slice none 0 0] 34) = W1 at *
      refine (HR1.out _).mono ?_
      rintro e w3 ⟨hb3, T, ta, tc, nx, rfl, hs3, hm⟩
      have hbx := below1 w3 (.cells #[.int .i64 T.kind, .int .i64 T.num, .slice ta T.kids.length tc] 34)
      have HV3 := tuck ((HV1.out.below hb3).below hbx)
      have HVT := tuck (VarAt.new w3 T.kind T.num (.slice ta T.kids.length tc))
      have HB3 := tuck (bAfter HB1.out (bAfter hb3 hbx))
      have HZ1 : Hid (w.heap.size + 1 ≤ W1.heap.size) := tuck HV1.out.facts.1
      have HS3 := tuck (hs3.below hbx)
      obtain ⟨z1, r0, r1, r2, rf⟩ := HV3.out.facts
      clear hb3 hs3 hbx HR1
      obtain ⟨rfl, rfl, hle⟩ := hm
      have hg1 : decide ((n : Int) < 0) = false := decide_eq_false (by omega)
      have hg2 : decide ((s.size : Int) ≤ (n : Int)) = false := decide_eq_false (by omega)
      have hg3 : ¬ (s.size : Int) ≤ (n : Int) := by omega
      have hg4 : (n : Int) < (s.size : Int) := by omega
      have HZ3 : Hid (w.heap.size + 1 ≤ (w3.alloc (.cells #[.int .i64 T.kind, .int .i64 T.num, .slice ta T.kids.length tc] 34)).heap.size) := tuck z1
      go_wp2_with fail
      refine (HR2'.out _).mono ?_
      rintro e w5 ⟨hb5, U, ua, uc, ny, rfl, hs5, hm2⟩
      have hby := below1 w5 (.cells #[.int .i64 U.kind, .int .i64 U.num, .slice ua U.kids.length uc] 34)
      have HV5 := tuck ((HV3.out.below hb5).below hby)
      have HVT5 := tuck ((HVT.out.below hb5).below hby)
      have HVU5 := tuck (VarAt.new w5 U.kind U.num (.slice ua U.kids.length uc))
      have HB5 := tuck (bAfter HB3.out (bAfter hb5 hby))
      have HST := tuck ((HS3.out.below hb5).below hby)
      have HSU := tuck (hs5.below hby)
      have HM2 := tuck hm2
      clear z1 r0 r1 r2 rf
      obtain ⟨z1, r0, r1, r2, rf⟩ := HV5.out.facts
      clear hb5 hby hs5 hm2
      obtain ⟨rfl, rfl, hle2⟩ := HM2.out
      have k1 : decide ((m : Int) < 0) = false := decide_eq_false (by omega)
      have k2 : decide ((s.size : Int) ≤ (m : Int)) = true := decide_eq_true (by omega)
      go_wp2_with fail
      refine bodyPost_ret (v := .tuple #[.agg #[.int .i64 0, .int .i64 0, .slice none 0 0], .int .i64 (-1)]) (by simp [results, Tryz.results141, go_sem, *]) rfl (HNO.out _ ?_)
      exact bSet3 HB5.out (Nat.le_refl _) _ _ _ _ _ _
   have HRK : Hid (roundKind (byteAt s n) = 0) := tuck (by rw [byteAt_eq hn]; unfold roundKind; rw [if_neg h62, if_neg h42, if_neg h32])
   have g62 : ((s[n].toNat : Int) == 62) = false := by rw [beq_eq_false_iff_ne]; omega
   have g42 : ((s[n].toNat : Int) == 42) = false := by rw [beq_eq_false_iff_ne]; omega
   have g32 : ((s[n].toNat : Int) == 32) = false := by rw [beq_eq_false_iff_ne]; omega
   replace HNO := tuck (HNO.out (by rw [HPT.out, hp]; dsimp only; rw [if_pos hn]; cases pt s d (n + 1) with | none => rfl | some y => exact if_neg (fun h => h.1 HRK.out)))
   clear HYES HPT hp
   go_enter Tryz.func141, Tryz.ntmps141
   go_wp2_with fail
   generalize w.alloc (.cells #[.int .i64 0, .int .i64 0, .slice none 0 0] 34) = W1 at *
   refine (HR1.out _).mono ?_
   rintro e w3 ⟨hb3, T, ta, tc, nx, rfl, hs3, hm⟩
   have hbx := below1 w3 (.cells #[.int .i64 T.kind, .int .i64 T.num, .slice ta T.kids.length tc] 34)
   have HV3 := tuck ((HV1.out.below hb3).below hbx)
   have HVT := tuck (VarAt.new w3 T.kind T.num (.slice ta T.kids.length tc))
   have HB3 := tuck (bAfter HB1.out (bAfter hb3 hbx))
   have HZ1 : Hid (w.heap.size + 1 ≤ W1.heap.size) := tuck HV1.out.facts.1
   have HS3 := tuck (hs3.below hbx)
   obtain ⟨z1, r0, r1, r2, rf⟩ := HV3.out.facts
   clear hb3 hs3 hbx HR1
   obtain ⟨rfl, rfl, hle⟩ := hm
   have hg1 : decide ((n : Int) < 0) = false := decide_eq_false (by omega)
   have hg2 : decide ((s.size : Int) ≤ (n : Int)) = false := decide_eq_false (by omega)
   have hg3 : ¬ (s.size : Int) ≤ (n : Int) := by omega
   have hg4 : (n : Int) < (s.size : Int) := by omega
   have HZ3 : Hid (w.heap.size + 1 ≤ (w3.alloc (.cells #[.int .i64 T.kind, .int .i64 T.num, .slice ta T.kids.length tc] 34)).heap.size) := tuck z1
   go_wp2_with fail
   refine (HR2.out n _).mono ?_
   rintro e w5 ⟨hb5, U, ua, uc, ny, rfl, hs5, hm2⟩
   have hby := below1 w5 (.cells #[.int .i64 U.kind, .int .i64 U.num, .slice ua U.kids.length uc] 34)
   have HV5 := tuck ((HV3.out.below hb5).below hby)
   have HVT5 := tuck ((HVT.out.below hb5).below hby)
   have HVU5 := tuck (VarAt.new w5 U.kind U.num (.slice ua U.kids.length uc))
   have HB5 := tuck (bAfter HB3.out (bAfter hb5 hby))
   have HST := tuck ((HS3.out.below hb5).below hby)
   have HSU := tuck (hs5.below hby)
   have HM2 := tuck hm2
   clear z1 r0 r1 r2 rf
   obtain ⟨z1, r0, r1, r2, rf⟩ := HV5.out.facts
   clear hb5 hby hs5 hm2
   go_wp2_with fail
   refine bodyPost_ret (v := .tuple #[.agg #[.int .i64 0, .int .i64 0, .slice none 0 0], .int .i64 (-1)]) (by simp [results, Tryz.results141, go_sem, *]) rfl (HNO.out _ ?_)
   exact bSet3 HB5.out (Nat.le_refl _) _ _ _ _ _ _
  ·replace HNO := tuck (HNO.out (by rw [HPT.out, hp]; exact if_neg hn))
   clear HYES HPT hp HR2
   go_enter Tryz.func141, Tryz.ntmps141
   go_wp2_with fail
   generalize w.alloc (.cells #[.int .i64 0, .int .i64 0, .slice none 0 0] 34) = W1 at *
   refine (HR1.out _).mono ?_
   rintro e w3 ⟨hb3, T, ta, tc, nx, rfl, hs3, hm⟩
   have hbx := below1 w3 (.cells #[.int .i64 T.kind, .int .i64 T.num, .slice ta T.kids.length tc] 34)
   have HV3 := tuck ((HV1.out.below hb3).below hbx)
   have HVT := tuck (VarAt.new w3 T.kind T.num (.slice ta T.kids.length tc))
   have HB3 := tuck (bAfter HB1.out (bAfter hb3 hbx))
   have HZ1 : Hid (w.heap.size + 1 ≤ W1.heap.size) := tuck HV1.out.facts.1
   have HS3 := tuck (hs3.below hbx)
   obtain ⟨z1, r0, r1, r2, rf⟩ := HV3.out.facts
   clear hb3 hs3 hbx HR1
   obtain ⟨rfl, rfl, hle⟩ := hm
   have hg1 : decide ((n : Int) < 0) = false := decide_eq_false (by omega)
   have hg2 : decide ((s.size : Int) ≤ (n : Int)) = true := decide_eq_true (by omega)
   have hg3 : (s.size : Int) ≤ (n : Int) := by omega
   go_wp2_with fail
   refine bodyPost_ret (v := .tuple #[.agg #[.int .i64 0, .int .i64 0, .slice none 0 0], .int .i64 (-1)]) (by simp [results, Tryz.results141, go_sem, *]) rfl (HNO.out _ ?_)
   exact bSet3 HB3.out (Nat.le_refl _) _ _ _ _ _ _
end Go.Proofs.YtpddjebdncaceaaGreat
