/-
  NsB.
-/
import Derived.Test.YtjdmfegdgpbkgaaGreatO10
import Derived.Test.YtjdmfegdgpbkgaaGreatO24
import Derived.Test.YtjdmfegdgpbkgaaGreatO43
namespace Go.Proofs.YtjdmfegdgpbkgaaGreat
open Go.RowKit
set_option linter.unusedVariables false
set_option maxRecDepth 100000 in
set_option maxHeartbeats 8000000 in
theorem block6_any (s : ByteArray) (hs : s.size ≤ 1152921504606846976) (d : Nat) (hd : d ≤ 100) (nm : ByteArray) (f : Nat → Option (Tm × Nat)) (hrec : ∀ (A : Nat) W, Calls Tryz.prog 47 #[.string s, .int .i64 A, .string nm, .int .i64 d] W (PPost s W (f A))) (a : Nat) (ha : a < s.size) (w : World) :
  Calls Tryz.prog 77 #[.string s, .int .i64 a, .string nm, .int .i64 ((d : Int) + 1)] w (PPost s w (ptBlock s f a)) := by
 obtain ⟨post, hpost⟩ : ∃ post : Ending → World → Prop, post = PPost s w (ptBlock s f a) := ⟨_, rfl⟩
 rw [← hpost]
 have HPO := tuck hpost
 clear hpost
 have HB1 := tuck (below1 w (.cells #[.int .i64 0, .int .i64 0, .slice none 0 0] 25))
 have HV1 := tuck (VarAt.new w 0 0 (.slice none 0 0))
 have hds : (d : Int) + 1 - 1 = (d : Int) := by omega
 have hai : (a : Int) < (s.size : Int) := by omega
 by_cases hb : s[a].toNat = 60
 ·have g60 : ((s[a].toNat : Int) == 60) = true := by rw [beq_iff_eq]; omega
  have HKI : Hid (∀ W, Calls Tryz.prog 94 #[.string s, .int .i64 ((a : Int) + 1), .string nm, .int .i64 d, .int .i64 4, .int .u8 62] W (SerPost s W (ptSer s f 62 4 (a + 1)))) := tuck fun W => by
   have := kids6_any s hs d nm f hrec 62 4 (by decide) (a + 1) (by omega) W
   rwa [show ((a + 1 : Nat) : Int) = (a : Int) + 1 by omega] at this
  have hpb : ptBlock s f a = (ptSer s f 62 4 (a + 1)).map fun y => (Tm.mk 9 0 y.1, y.2) := by
   unfold ptBlock
   rw [byteAt_eq ha, hb]
   rfl
  rw [hpb] at HPO
  clear hpb hrec
  go_enter Tryz.func77, Tryz.ntmps77
  go_wp2_with fail
  generalize w.alloc (.cells #[.int .i64 0, .int .i64 0, .slice none 0 0] 25) = W1 at *
  refine (HKI.out _).mono ?_
  rintro e w2 ⟨hb2, l, la, lc, nx, rfl, hsl, hm⟩
  obtain ⟨zv, v0, v1, v2, vf⟩ := (HV1.out.below hb2).facts
  have HB2 := tuck (bAfter HB1.out hb2)
  have HZ1 : Hid (w.heap.size < W1.heap.size) := tuck HV1.out.facts.1
  have HS2 := tuck hsl
  have HM := tuck hm
  clear hb2 hsl hm HKI
  go_wp2_with fail
  refine bodyPost_ret (v := .tuple #[.agg #[.int .i64 9, .int .i64 0, .slice la l.length lc], .int .i64 nx]) (by simp [results, Tryz.results77, go_sem, *]) rfl ?_
  rw [HPO.out]
  refine ⟨bSet3 HB2.out (Nat.le_refl _) _ _ _ _ _ _, .mk 9 0 l, la, lc, nx, rfl, ?_, ?_⟩
  ·exact (SlIn.set3 HS2.out HZ1.out).mono (Nat.le_of_lt HZ1.out)
  ·have hm := HM.out
   cases h : ptSer s f 62 4 (a + 1) with
   | none => rw [h] at hm; exact hm
   | some x => rw [h] at hm; exact ⟨by rw [hm.1], hm.2⟩
 have n60 := hb
 clear hb
 by_cases hb : s[a].toNat = 123
 ·have g123 : ((s[a].toNat : Int) == 123) = true := by rw [beq_iff_eq]; omega
  have g60 : ((s[a].toNat : Int) == 60) = false := by rw [beq_eq_false_iff_ne]; omega
  have HKI : Hid (∀ W, Calls Tryz.prog 94 #[.string s, .int .i64 ((a : Int) + 1), .string nm, .int .i64 d, .int .i64 3, .int .u8 125] W (SerPost s W (ptSer s f 125 3 (a + 1)))) := tuck fun W => by
   have := kids6_any s hs d nm f hrec 125 3 (by decide) (a + 1) (by omega) W
   rwa [show ((a + 1 : Nat) : Int) = (a : Int) + 1 by omega] at this
  have hpb : ptBlock s f a = (ptSer s f 125 3 (a + 1)).map fun y => (Tm.mk 10 0 y.1, y.2) := by
   unfold ptBlock
   rw [byteAt_eq ha, hb]
   rfl
  rw [hpb] at HPO
  clear hpb hrec
  go_enter Tryz.func77, Tryz.ntmps77
  go_wp2_with fail
  generalize w.alloc (.cells #[.int .i64 0, .int .i64 0, .slice none 0 0] 25) = W1 at *
  refine (HKI.out _).mono ?_
  rintro e w2 ⟨hb2, l, la, lc, nx, rfl, hsl, hm⟩
  obtain ⟨zv, v0, v1, v2, vf⟩ := (HV1.out.below hb2).facts
  have HB2 := tuck (bAfter HB1.out hb2)
  have HZ1 : Hid (w.heap.size < W1.heap.size) := tuck HV1.out.facts.1
  have HS2 := tuck hsl
  have HM := tuck hm
  clear hb2 hsl hm HKI
  go_wp2_with fail
  refine bodyPost_ret (v := .tuple #[.agg #[.int .i64 10, .int .i64 0, .slice la l.length lc], .int .i64 nx]) (by simp [results, Tryz.results77, go_sem, *]) rfl ?_
  rw [HPO.out]
  refine ⟨bSet3 HB2.out (Nat.le_refl _) _ _ _ _ _ _, .mk 10 0 l, la, lc, nx, rfl, ?_, ?_⟩
  ·exact (SlIn.set3 HS2.out HZ1.out).mono (Nat.le_of_lt HZ1.out)
  ·have hm := HM.out
   cases h : ptSer s f 125 3 (a + 1) with
   | none => rw [h] at hm; exact hm
   | some x => rw [h] at hm; exact ⟨by rw [hm.1], hm.2⟩
 have n123 := hb
 clear hb
 by_cases hb : s[a].toNat = 124
 ·have g124 : ((s[a].toNat : Int) == 124) = true := by rw [beq_iff_eq]; omega
  have g60 : ((s[a].toNat : Int) == 60) = false := by rw [beq_eq_false_iff_ne]; omega
  have g123 : ((s[a].toNat : Int) == 123) = false := by rw [beq_eq_false_iff_ne]; omega
  have HKI : Hid (∀ W, Calls Tryz.prog 94 #[.string s, .int .i64 ((a : Int) + 1), .string nm, .int .i64 d, .int .i64 3, .int .u8 124] W (SerPost s W (ptSer s f 124 3 (a + 1)))) := tuck fun W => by
   have := kids6_any s hs d nm f hrec 124 3 (by decide) (a + 1) (by omega) W
   rwa [show ((a + 1 : Nat) : Int) = (a : Int) + 1 by omega] at this
  have hpb : ptBlock s f a = (ptSer s f 124 3 (a + 1)).map fun y => (Tm.mk 14 0 y.1, y.2) := by
   unfold ptBlock
   rw [byteAt_eq ha, hb]
   rfl
  rw [hpb] at HPO
  clear hpb hrec
  go_enter Tryz.func77, Tryz.ntmps77
  go_wp2_with fail
  generalize w.alloc (.cells #[.int .i64 0, .int .i64 0, .slice none 0 0] 25) = W1 at *
  refine (HKI.out _).mono ?_
  rintro e w2 ⟨hb2, l, la, lc, nx, rfl, hsl, hm⟩
  obtain ⟨zv, v0, v1, v2, vf⟩ := (HV1.out.below hb2).facts
  have HB2 := tuck (bAfter HB1.out hb2)
  have HZ1 : Hid (w.heap.size < W1.heap.size) := tuck HV1.out.facts.1
  have HS2 := tuck hsl
  have HM := tuck hm
  clear hb2 hsl hm HKI
  go_wp2_with fail
  refine bodyPost_ret (v := .tuple #[.agg #[.int .i64 14, .int .i64 0, .slice la l.length lc], .int .i64 nx]) (by simp [results, Tryz.results77, go_sem, *]) rfl ?_
  rw [HPO.out]
  refine ⟨bSet3 HB2.out (Nat.le_refl _) _ _ _ _ _ _, .mk 14 0 l, la, lc, nx, rfl, ?_, ?_⟩
  ·exact (SlIn.set3 HS2.out HZ1.out).mono (Nat.le_of_lt HZ1.out)
  ·have hm := HM.out
   cases h : ptSer s f 124 3 (a + 1) with
   | none => rw [h] at hm; exact hm
   | some x => rw [h] at hm; exact ⟨by rw [hm.1], hm.2⟩
 have n124 := hb
 clear hb
 have g60 : ((s[a].toNat : Int) == 60) = false := by rw [beq_eq_false_iff_ne]; omega
 have g123 : ((s[a].toNat : Int) == 123) = false := by rw [beq_eq_false_iff_ne]; omega
 have g124 : ((s[a].toNat : Int) == 124) = false := by rw [beq_eq_false_iff_ne]; omega
 by_cases h64 : s[a].toNat = 64
 ·have hb := h64
  have g64 : ((s[a].toNat : Int) == 64) = true := by rw [beq_iff_eq]; omega
  by_cases h1 : a + 1 < s.size
  ·have k1 : decide ((a : Int) + 1 < (s.size : Int)) = true := decide_eq_true (by omega)
   have k2 : (a : Int) + 1 < (s.size : Int) := by omega
   have htn : ((a : Int) + 1).toNat = a + 1 := by omega
   by_cases h60 : s[a + 1].toNat = 60
   ·have g6 : ((s[a + 1].toNat : Int) == 60) = true := by rw [beq_iff_eq]; omega
    have hb60 : byteAt s (a + 1) = 60 := by rw [byteAt_eq h1]; exact h60
    have HKI : Hid (∀ W, Calls Tryz.prog 94 #[.string s, .int .i64 ((a : Int) + 2), .string nm, .int .i64 d, .int .i64 3, .int .u8 62] W (SerPost s W (ptSer s f 62 3 (a + 2)))) := tuck fun W => by
     have := kids6_any s hs d nm f hrec 62 3 (by decide) (a + 2) (by omega) W
     rwa [show ((a + 2 : Nat) : Int) = (a : Int) + 2 by omega] at this
    have hpb : ptBlock s f a = (ptSer s f 62 3 (a + 2)).map fun y => (Tm.mk 12 0 y.1, y.2) := by
     unfold ptBlock
     rw [byteAt_eq ha, hb, if_neg (by decide), if_neg (fun h => h.2 hb60)]
     rfl
    rw [hpb] at HPO
    clear hpb hrec
    go_enter Tryz.func77, Tryz.ntmps77
    go_wp2_with fail
    generalize w.alloc (.cells #[.int .i64 0, .int .i64 0, .slice none 0 0] 25) = W1 at *
    refine (HKI.out _).mono ?_
    rintro e w2 ⟨hb2, l, la, lc, nx, rfl, hsl, hm⟩
    obtain ⟨zv, v0, v1, v2, vf⟩ := (HV1.out.below hb2).facts
    have HB2 := tuck (bAfter HB1.out hb2)
    have HZ1 : Hid (w.heap.size < W1.heap.size) := tuck HV1.out.facts.1
    have HS2 := tuck hsl
    have HM := tuck hm
    clear hb2 hsl hm HKI
    go_wp2_with fail
    refine bodyPost_ret (v := .tuple #[.agg #[.int .i64 12, .int .i64 0, .slice la l.length lc], .int .i64 nx]) (by simp [results, Tryz.results77, go_sem, *]) rfl ?_
    rw [HPO.out]
    refine ⟨bSet3 HB2.out (Nat.le_refl _) _ _ _ _ _ _, .mk 12 0 l, la, lc, nx, rfl, ?_, ?_⟩
    ·exact (SlIn.set3 HS2.out HZ1.out).mono (Nat.le_of_lt HZ1.out)
    ·have hm := HM.out
     cases h : ptSer s f 62 3 (a + 2) with
     | none => rw [h] at hm; exact hm
     | some x => rw [h] at hm; exact ⟨by rw [hm.1], hm.2⟩
   ·have g6 : ((s[a + 1].toNat : Int) == 60) = false := by rw [beq_eq_false_iff_ne]; omega
    have hpb : ptBlock s f a = none := by
     unfold ptBlock
     rw [byteAt_eq ha, hb, if_neg (by decide), if_pos ⟨rfl, by rw [byteAt_eq h1]; exact h60⟩]
    rw [hpb] at HPO
    clear hpb hrec
    go_enter Tryz.func77, Tryz.ntmps77
    go_wp2_with fail
    refine bodyPost_ret (v := .tuple #[.agg #[.int .i64 0, .int .i64 0, .slice none 0 0], .int .i64 (-1)]) (by simp [results, Tryz.results77, go_sem, *]) rfl ?_
    rw [HPO.out]
    exact PPost.zero (below1 w _)
  ·have k1 : decide ((a : Int) + 1 < (s.size : Int)) = false := decide_eq_false (by omega)
   have hpb : ptBlock s f a = none := by
    unfold ptBlock
    rw [byteAt_eq ha, hb, if_neg (by decide), if_pos ⟨rfl, by rw [byteAt_end (by omega)]; decide⟩]
   rw [hpb] at HPO
   clear hpb hrec
   go_enter Tryz.func77, Tryz.ntmps77
   go_wp2_with fail
   refine bodyPost_ret (v := .tuple #[.agg #[.int .i64 0, .int .i64 0, .slice none 0 0], .int .i64 (-1)]) (by simp [results, Tryz.results77, go_sem, *]) rfl ?_
   rw [HPO.out]
   exact PPost.zero (below1 w _)
 ·have g64 : ((s[a].toNat : Int) == 64) = false := by rw [beq_eq_false_iff_ne]; omega
  have hpb : ptBlock s f a = none := by
   unfold ptBlock
   have : blockKind (byteAt s a) = 0 := by rw [byteAt_eq ha]; unfold blockKind; rw [if_neg n60, if_neg n123, if_neg n124, if_neg h64]
   rw [if_pos this]
  rw [hpb] at HPO
  clear hpb hrec
  go_enter Tryz.func77, Tryz.ntmps77
  go_wp2_with fail
  refine bodyPost_ret (v := .tuple #[.agg #[.int .i64 0, .int .i64 0, .slice none 0 0], .int .i64 (-1)]) (by simp [results, Tryz.results77, go_sem, *]) rfl ?_
  rw [HPO.out]
  exact PPost.zero (below1 w _)
end Go.Proofs.YtjdmfegdgpbkgaaGreat
