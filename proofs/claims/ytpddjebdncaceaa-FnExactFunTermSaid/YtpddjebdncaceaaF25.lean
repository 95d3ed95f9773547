/-
  ParseD.
-/
import Derived.Test.YtpddjebdncaceaaF24
namespace Go.Proofs.Ytpddjebdncaceaa
open Go.RowKit
set_option maxRecDepth 100000 in
set_option maxHeartbeats 4000000 in
theorem block_any (s : ByteArray) (hs : s.size ≤ 1152921504606846976) (d : Nat) (hd : d ≤ 100) (hrec : ParseOk s d) (a : Nat) (ha : a < s.size) (w : World) :
  Calls Try.prog 33 #[.string s, .int .i64 a, .int .i64 ((d + 1 : Nat) : Int)] w (PPost s w (ptBlock s (pt s d) a)) := by
 obtain ⟨post, hpost⟩ : ∃ post : Ending → World → Prop, post = PPost s w (ptBlock s (pt s d) a) := ⟨_, rfl⟩
 rw [← hpost]
 have HNO0 : Hid (ptBlock s (pt s d) a = none → ∀ w', Below w.heap.size w w' → post (.returned (.tuple #[.agg #[.int .i64 0, .int .i64 0, .slice none 0 0], .int .i64 (-1)])) w') := tuck fun h w' hb => by rw [hpost, h]; exact PPost.zero hb
 have HB1 := tuck (below1 w (.cells #[.int .i64 0, .int .i64 0, .slice none 0 0] 24))
 have HV1 := tuck (VarAt.new w 0 0 (.slice none 0 0))
 have hai : (a : Int) < (s.size : Int) := by omega
 have hdd : ((d + 1 : Nat) : Int) - 1 = (d : Int) := by omega
 have hds : (d : Int) + 1 - 1 = (d : Int) := by omega
 by_cases hb : s[a].toNat = 60
 ·have hkk : blockKind (byteAt s a) = 9 := by rw [byteAt_eq ha, hb]; decide
  have hll : blockLast (byteAt s a) = 62 := by rw [byteAt_eq ha, hb]; decide
  have hbb : byteAt s a = 60 := by rw [byteAt_eq ha, hb]
  have g60 : ((s[a].toNat : Int) == 60) = true := by rw [beq_iff_eq]; omega
  obtain ⟨o, ho⟩ : ∃ o, o = ptSer s (pt s d) 62 4 (a + 1) := ⟨_, rfl⟩
  have hpt : ptBlock s (pt s d) a = o.map fun y => (.mk 9 0 y.1, y.2) := by
   unfold ptBlock
   rw [hkk, if_neg (by decide), hll, hbb, if_neg (fun h => absurd h.1 (by decide)), if_pos rfl, ho]
   rfl
  have HYES : Hid (∀ (l : List Tm) (a' : Option Addr) (c' : Nat) (nx : Int) (w' : World), Below w.heap.size w w' → SlIn w' w.heap.size l (.slice a' l.length c') → (match o with | none => nx = -1 | some x => l = x.1 ∧ nx = (x.2 : Int) ∧ x.2 ≤ s.size) → post (.returned (.tuple #[.agg #[.int .i64 9, .int .i64 0, .slice a' l.length c'], .int .i64 nx])) w') := tuck fun l a' c' nx w' hb hs' hm => by
   rw [hpost, hpt]
   refine ⟨hb, .mk 9 0 l, a', c', nx, rfl, hs', ?_⟩
   cases o with
   | none => exact hm
   | some x => exact ⟨by rw [hm.1], hm.2⟩
  clear hpost hpt hkk hll hbb HNO0
  have HSER : Hid (∀ W, Calls Try.prog 41 #[.string s, .int .i64 ((a : Int) + 1), .int .i64 d, .int .i64 4, .int .u8 62] W (SerPost s W o)) := tuck fun W => by
   have := series_any s hs d hrec 62 4 (by decide) (a + 1) (by omega) W
   rw [← ho] at this
   rwa [show ((a + 1 : Nat) : Int) = (a : Int) + 1 by omega] at this
  have HKI : Hid (∀ W : World, Calls Try.prog 42 #[.int .i64 9] W fun e w' => e = .returned (.int .i64 4) ∧ W = w') := tuck fun W => by have := kids_any 9 W; rwa [show arity 9 = 4 by decide] at this
  clear hrec ho
  go_enter Try.func33, Try.ntmps33
  go_wp2_with fail
  generalize w.alloc (.cells #[.int .i64 0, .int .i64 0, .slice none 0 0] 24) = W1 at *
  refine (HKI.out _).mono ?_
  rintro e w2 ⟨rfl, rfl⟩
  go_wp2_with fail
  refine (HSER.out _).mono ?_
  rintro e w3 ⟨hb3, l, la, lc, nx, rfl, hs3, hm⟩
  have hzz := HV1.out.facts.1
  obtain ⟨z1, r0, r1, r2, rf⟩ := (HV1.out.below hb3).facts
  have HB3 := tuck (bAfter HB1.out hb3)
  have HS3 : Hid (SlIn w3 (w.heap.size + 1) l (.slice la l.length lc)) := tuck (hs3.mono hzz)
  have HM := tuck hm
  clear hb3 hs3 hm hzz
  go_wp2_with fail
  refine bodyPost_ret (v := .tuple #[.agg #[.int .i64 9, .int .i64 0, .slice la l.length lc], .int .i64 nx]) (by simp [results, Try.results33, go_sem, *]) rfl (HYES.out l la lc nx _ ?_ ?_ HM.out)
  ·exact bSet3 HB3.out (Nat.le_refl _) _ _ _ _ _ _
  ·exact (SlIn.set3 HS3.out (Nat.lt_succ_self _)).mono (Nat.le_succ _)
 have hn60 := hb
 have g60 : ((s[a].toNat : Int) == 60) = false := by rw [beq_eq_false_iff_ne]; omega
 clear hb
 by_cases hb : s[a].toNat = 123
 ·have hkk : blockKind (byteAt s a) = 10 := by rw [byteAt_eq ha, hb]; decide
  have hll : blockLast (byteAt s a) = 125 := by rw [byteAt_eq ha, hb]; decide
  have hbb : byteAt s a = 123 := by rw [byteAt_eq ha, hb]
  have g60 : ((s[a].toNat : Int) == 60) = false := by rw [beq_eq_false_iff_ne]; omega
  have g123 : ((s[a].toNat : Int) == 123) = true := by rw [beq_iff_eq]; omega
  obtain ⟨o, ho⟩ : ∃ o, o = ptSer s (pt s d) 125 3 (a + 1) := ⟨_, rfl⟩
  have hpt : ptBlock s (pt s d) a = o.map fun y => (.mk 10 0 y.1, y.2) := by
   unfold ptBlock
   rw [hkk, if_neg (by decide), hll, hbb, if_neg (fun h => absurd h.1 (by decide)), if_neg (by decide), ho]
   rfl
  have HYES : Hid (∀ (l : List Tm) (a' : Option Addr) (c' : Nat) (nx : Int) (w' : World), Below w.heap.size w w' → SlIn w' w.heap.size l (.slice a' l.length c') → (match o with | none => nx = -1 | some x => l = x.1 ∧ nx = (x.2 : Int) ∧ x.2 ≤ s.size) → post (.returned (.tuple #[.agg #[.int .i64 10, .int .i64 0, .slice a' l.length c'], .int .i64 nx])) w') := tuck fun l a' c' nx w' hb hs' hm => by
   rw [hpost, hpt]
   refine ⟨hb, .mk 10 0 l, a', c', nx, rfl, hs', ?_⟩
   cases o with
   | none => exact hm
   | some x => exact ⟨by rw [hm.1], hm.2⟩
  clear hpost hpt hkk hll hbb HNO0
  have HSER : Hid (∀ W, Calls Try.prog 41 #[.string s, .int .i64 ((a : Int) + 1), .int .i64 d, .int .i64 3, .int .u8 125] W (SerPost s W o)) := tuck fun W => by
   have := series_any s hs d hrec 125 3 (by decide) (a + 1) (by omega) W
   rw [← ho] at this
   rwa [show ((a + 1 : Nat) : Int) = (a : Int) + 1 by omega] at this
  have HKI : Hid (∀ W : World, Calls Try.prog 42 #[.int .i64 10] W fun e w' => e = .returned (.int .i64 3) ∧ W = w') := tuck fun W => by have := kids_any 10 W; rwa [show arity 10 = 3 by decide] at this
  clear hrec ho
  go_enter Try.func33, Try.ntmps33
  go_wp2_with fail
  generalize w.alloc (.cells #[.int .i64 0, .int .i64 0, .slice none 0 0] 24) = W1 at *
  refine (HKI.out _).mono ?_
  rintro e w2 ⟨rfl, rfl⟩
  go_wp2_with fail
  refine (HSER.out _).mono ?_
  rintro e w3 ⟨hb3, l, la, lc, nx, rfl, hs3, hm⟩
  have hzz := HV1.out.facts.1
  obtain ⟨z1, r0, r1, r2, rf⟩ := (HV1.out.below hb3).facts
  have HB3 := tuck (bAfter HB1.out hb3)
  have HS3 : Hid (SlIn w3 (w.heap.size + 1) l (.slice la l.length lc)) := tuck (hs3.mono hzz)
  have HM := tuck hm
  clear hb3 hs3 hm hzz
  go_wp2_with fail
  refine bodyPost_ret (v := .tuple #[.agg #[.int .i64 10, .int .i64 0, .slice la l.length lc], .int .i64 nx]) (by simp [results, Try.results33, go_sem, *]) rfl (HYES.out l la lc nx _ ?_ ?_ HM.out)
  ·exact bSet3 HB3.out (Nat.le_refl _) _ _ _ _ _ _
  ·exact (SlIn.set3 HS3.out (Nat.lt_succ_self _)).mono (Nat.le_succ _)
 have hn123 := hb
 have g123 : ((s[a].toNat : Int) == 123) = false := by rw [beq_eq_false_iff_ne]; omega
 clear hb
 by_cases hb : s[a].toNat = 124
 ·have hkk : blockKind (byteAt s a) = 14 := by rw [byteAt_eq ha, hb]; decide
  have hll : blockLast (byteAt s a) = 124 := by rw [byteAt_eq ha, hb]; decide
  have hbb : byteAt s a = 124 := by rw [byteAt_eq ha, hb]
  have g60 : ((s[a].toNat : Int) == 60) = false := by rw [beq_eq_false_iff_ne]; omega
  have g123 : ((s[a].toNat : Int) == 123) = false := by rw [beq_eq_false_iff_ne]; omega
  have g124 : ((s[a].toNat : Int) == 124) = true := by rw [beq_iff_eq]; omega
  obtain ⟨o, ho⟩ : ∃ o, o = ptSer s (pt s d) 124 3 (a + 1) := ⟨_, rfl⟩
  have hpt : ptBlock s (pt s d) a = o.map fun y => (.mk 14 0 y.1, y.2) := by
   unfold ptBlock
   rw [hkk, if_neg (by decide), hll, hbb, if_neg (fun h => absurd h.1 (by decide)), if_neg (by decide), ho]
   rfl
  have HYES : Hid (∀ (l : List Tm) (a' : Option Addr) (c' : Nat) (nx : Int) (w' : World), Below w.heap.size w w' → SlIn w' w.heap.size l (.slice a' l.length c') → (match o with | none => nx = -1 | some x => l = x.1 ∧ nx = (x.2 : Int) ∧ x.2 ≤ s.size) → post (.returned (.tuple #[.agg #[.int .i64 14, .int .i64 0, .slice a' l.length c'], .int .i64 nx])) w') := tuck fun l a' c' nx w' hb hs' hm => by
   rw [hpost, hpt]
   refine ⟨hb, .mk 14 0 l, a', c', nx, rfl, hs', ?_⟩
   cases o with
   | none => exact hm
   | some x => exact ⟨by rw [hm.1], hm.2⟩
  clear hpost hpt hkk hll hbb HNO0
  have HSER : Hid (∀ W, Calls Try.prog 41 #[.string s, .int .i64 ((a : Int) + 1), .int .i64 d, .int .i64 3, .int .u8 124] W (SerPost s W o)) := tuck fun W => by
   have := series_any s hs d hrec 124 3 (by decide) (a + 1) (by omega) W
   rw [← ho] at this
   rwa [show ((a + 1 : Nat) : Int) = (a : Int) + 1 by omega] at this
  have HKI : Hid (∀ W : World, Calls Try.prog 42 #[.int .i64 14] W fun e w' => e = .returned (.int .i64 3) ∧ W = w') := tuck fun W => by have := kids_any 14 W; rwa [show arity 14 = 3 by decide] at this
  clear hrec ho
  go_enter Try.func33, Try.ntmps33
  go_wp2_with fail
  generalize w.alloc (.cells #[.int .i64 0, .int .i64 0, .slice none 0 0] 24) = W1 at *
  refine (HKI.out _).mono ?_
  rintro e w2 ⟨rfl, rfl⟩
  go_wp2_with fail
  refine (HSER.out _).mono ?_
  rintro e w3 ⟨hb3, l, la, lc, nx, rfl, hs3, hm⟩
  have hzz := HV1.out.facts.1
  obtain ⟨z1, r0, r1, r2, rf⟩ := (HV1.out.below hb3).facts
  have HB3 := tuck (bAfter HB1.out hb3)
  have HS3 : Hid (SlIn w3 (w.heap.size + 1) l (.slice la l.length lc)) := tuck (hs3.mono hzz)
  have HM := tuck hm
  clear hb3 hs3 hm hzz
  go_wp2_with fail
  refine bodyPost_ret (v := .tuple #[.agg #[.int .i64 14, .int .i64 0, .slice la l.length lc], .int .i64 nx]) (by simp [results, Try.results33, go_sem, *]) rfl (HYES.out l la lc nx _ ?_ ?_ HM.out)
  ·exact bSet3 HB3.out (Nat.le_refl _) _ _ _ _ _ _
  ·exact (SlIn.set3 HS3.out (Nat.lt_succ_self _)).mono (Nat.le_succ _)
 have hn124 := hb
 have g124 : ((s[a].toNat : Int) == 124) = false := by rw [beq_eq_false_iff_ne]; omega
 clear hb
 by_cases hb : s[a].toNat = 64
 ·have hkk : blockKind (byteAt s a) = 12 := by rw [byteAt_eq ha, hb]; decide
  have hll : blockLast (byteAt s a) = 62 := by rw [byteAt_eq ha, hb]; decide
  have hbb : byteAt s a = 64 := by rw [byteAt_eq ha, hb]
  have g60 : ((s[a].toNat : Int) == 60) = false := by rw [beq_eq_false_iff_ne]; omega
  have g123 : ((s[a].toNat : Int) == 123) = false := by rw [beq_eq_false_iff_ne]; omega
  have g124 : ((s[a].toNat : Int) == 124) = false := by rw [beq_eq_false_iff_ne]; omega
  have g64 : ((s[a].toNat : Int) == 64) = true := by rw [beq_iff_eq]; omega
  by_cases h2 : a + 1 < s.size
  ·have k0 : decide ((s.size : Int) < (a : Int) + 2) = false := decide_eq_false (by omega)
   have k0' : (a : Int) + 1 < (s.size : Int) := by omega
   have k0'' : (0 : Int) ≤ (a : Int) + 1 := by omega
   by_cases h60 : s[a + 1].toNat = 60
   ·have k1 : ((s[a + 1].toNat : Int) != 60) = false := by rw [bne_eq_false_iff_eq]; omega
    have hb2 : byteAt s (a + 1) = 60 := by rw [byteAt_eq h2]; exact h60
    obtain ⟨o, ho⟩ : ∃ o, o = ptSer s (pt s d) 62 3 (a + 2) := ⟨_, rfl⟩
    have hpt : ptBlock s (pt s d) a = o.map fun y => (.mk 12 0 y.1, y.2) := by
     unfold ptBlock
     rw [hkk, if_neg (by decide), hll, hbb, hb2, if_neg (fun h => h.2 rfl), if_neg (by decide), ho]
     rfl
    have HYES : Hid (∀ (l : List Tm) (a' : Option Addr) (c' : Nat) (nx : Int) (w' : World), Below w.heap.size w w' → SlIn w' w.heap.size l (.slice a' l.length c') → (match o with | none => nx = -1 | some x => l = x.1 ∧ nx = (x.2 : Int) ∧ x.2 ≤ s.size) → post (.returned (.tuple #[.agg #[.int .i64 12, .int .i64 0, .slice a' l.length c'], .int .i64 nx])) w') := tuck fun l a' c' nx w' hb hs' hm => by
     rw [hpost, hpt]
     refine ⟨hb, .mk 12 0 l, a', c', nx, rfl, hs', ?_⟩
     cases o with
     | none => exact hm
     | some x => exact ⟨by rw [hm.1], hm.2⟩
    clear hpost hpt hkk hll hbb HNO0 hb2
    have HSER : Hid (∀ W, Calls Try.prog 41 #[.string s, .int .i64 ((a : Int) + 2), .int .i64 d, .int .i64 3, .int .u8 62] W (SerPost s W o)) := tuck fun W => by
     have := series_any s hs d hrec 62 3 (by decide) (a + 2) (by omega) W
     rw [← ho] at this
     rwa [show ((a + 2 : Nat) : Int) = (a : Int) + 2 by omega] at this
    have HKI : Hid (∀ W : World, Calls Try.prog 42 #[.int .i64 12] W fun e w' => e = .returned (.int .i64 3) ∧ W = w') := tuck fun W => by have := kids_any 12 W; rwa [show arity 12 = 3 by decide] at this
    clear hrec ho
    go_enter Try.func33, Try.ntmps33
    go_wp2_with fail
    generalize w.alloc (.cells #[.int .i64 0, .int .i64 0, .slice none 0 0] 24) = W1 at *
    refine (HKI.out _).mono ?_
    rintro e w2 ⟨rfl, rfl⟩
    go_wp2_with fail
    refine (HSER.out _).mono ?_
    rintro e w3 ⟨hb3, l, la, lc, nx, rfl, hs3, hm⟩
    have hzz := HV1.out.facts.1
    obtain ⟨z1, r0, r1, r2, rf⟩ := (HV1.out.below hb3).facts
    have HB3 := tuck (bAfter HB1.out hb3)
    have HS3 : Hid (SlIn w3 (w.heap.size + 1) l (.slice la l.length lc)) := tuck (hs3.mono hzz)
    have HM := tuck hm
    clear hb3 hs3 hm hzz
    go_wp2_with fail
    refine bodyPost_ret (v := .tuple #[.agg #[.int .i64 12, .int .i64 0, .slice la l.length lc], .int .i64 nx]) (by simp [results, Try.results33, go_sem, *]) rfl (HYES.out l la lc nx _ ?_ ?_ HM.out)
    ·exact bSet3 HB3.out (Nat.le_refl _) _ _ _ _ _ _
    ·exact (SlIn.set3 HS3.out (Nat.lt_succ_self _)).mono (Nat.le_succ _)
   ·have k1 : ((s[a + 1].toNat : Int) != 60) = true := by rw [bne_iff_ne]; omega
    have HNO := tuck (HNO0.out (by
     unfold ptBlock
     rw [hkk, if_neg (by decide), hbb, byteAt_eq h2, if_pos ⟨rfl, h60⟩]))
    clear hpost hkk hll hbb HNO0 hrec
    go_enter Try.func33, Try.ntmps33
    go_wp2_with fail
    refine bodyPost_ret (v := .tuple #[.agg #[.int .i64 0, .int .i64 0, .slice none 0 0], .int .i64 (-1)]) (by simp [results, Try.results33, go_sem, *]) rfl (HNO.out _ ?_)
    first | exact HB1.out | exact bSet3 HB1.out (Nat.le_refl _) _ _ _ _ _ _
  ·have k0 : decide ((s.size : Int) < (a : Int) + 2) = true := decide_eq_true (by omega)
   have HNO := tuck (HNO0.out (by
    unfold ptBlock
    rw [hkk, if_neg (by decide), hbb, show byteAt s (a + 1) = 0 by unfold byteAt; rw [dif_neg h2], if_pos ⟨rfl, by decide⟩]))
   clear hpost hkk hll hbb HNO0 hrec
   go_enter Try.func33, Try.ntmps33
   go_wp2_with fail
   refine bodyPost_ret (v := .tuple #[.agg #[.int .i64 0, .int .i64 0, .slice none 0 0], .int .i64 (-1)]) (by simp [results, Try.results33, go_sem, *]) rfl (HNO.out _ ?_)
   first | exact HB1.out | exact bSet3 HB1.out (Nat.le_refl _) _ _ _ _ _ _
 have hn64 := hb
 have g64 : ((s[a].toNat : Int) == 64) = false := by rw [beq_eq_false_iff_ne]; omega
 clear hb
 have HNO := tuck (HNO0.out (by
  unfold ptBlock blockKind
  rw [byteAt_eq ha, if_neg hn60, if_neg hn123, if_neg hn124, if_neg hn64]
  exact if_pos rfl))
 clear hpost HNO0 hrec
 go_enter Try.func33, Try.ntmps33
 go_wp2_with fail
 refine bodyPost_ret (v := .tuple #[.agg #[.int .i64 0, .int .i64 0, .slice none 0 0], .int .i64 (-1)]) (by simp [results, Try.results33, go_sem, *]) rfl (HNO.out _ ?_)
 first | exact HB1.out | exact bSet3 HB1.out (Nat.le_refl _) _ _ _ _ _ _
end Go.Proofs.Ytpddjebdncaceaa
