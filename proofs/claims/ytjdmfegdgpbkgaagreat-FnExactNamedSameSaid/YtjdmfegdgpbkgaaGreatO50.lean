/-
  NsG.
-/
import Derived.Test.YtjdmfegdgpbkgaaGreatO46
import Derived.Test.YtjdmfegdgpbkgaaGreatO47
import Derived.Test.YtjdmfegdgpbkgaaGreatO48
import Derived.Test.YtjdmfegdgpbkgaaGreatO49
namespace Go.Proofs.YtjdmfegdgpbkgaaGreat
open Go.RowKit
set_option linter.unusedVariables false
theorem round6_any (s : ByteArray) (hs : s.size ≤ 1152921504606846976) (d B : Nat) (hB : B ≤ 1000) (ih : N6Ok s d (B + 1)) (nm : ByteArray) (hnm : nm.size ≤ B) (a : Nat) (ha : a ≤ s.size) (w : World) :
  Calls Tryz.prog 75 #[.string s, .int .i64 a, .string nm, .int .i64 d] w (PPost s w (nptRound s (npt s d) (bl nm nm.size) a)) := by
 cases h : colon s a
 ·exact round6_f s hs d B hB ih nm hnm a ha h w
 ·exact round6_t s hs d B hB ih nm hnm a ha h w
set_option maxRecDepth 100000 in
set_option maxHeartbeats 2000000 in
theorem n6_40 (s : ByteArray) (hs : s.size ≤ 1152921504606846976) (d : Nat) (hd : d + 1 ≤ 100) (B : Nat) (hB : B ≤ 1000) (ih : N6Ok s d (B + 1)) (nm : ByteArray) (a : Nat) (w : World) (hnm : nm.size ≤ B) (ha : a < s.size) (h40 : s[a].toNat = 40) : Calls Tryz.prog 47 #[.string s, .int .i64 a, .string nm, .int .i64 ((d + 1 : Nat) : Int)] w (PPost s w (npt s (d + 1) (bl nm nm.size) a)) := by
 obtain ⟨post, hpost⟩ : ∃ post : Ending → World → Prop, post = PPost s w (npt s (d + 1) (bl nm nm.size) a) := ⟨_, rfl⟩
 rw [← hpost]
 have HNO0 : Hid (npt s (d + 1) (bl nm nm.size) a = none → ∀ w', Below w.heap.size w w' → post (.returned (.tuple #[.agg #[.int .i64 0, .int .i64 0, .slice none 0 0], .int .i64 (-1)])) w') := tuck fun h w' hb => by rw [hpost, h]; exact PPost.zero hb
 have HB1 := tuck (below1 w (.cells #[.int .i64 0, .int .i64 0, .slice none 0 0] 25))
 have HV1 := tuck (VarAt.new w 0 0 (.slice none 0 0))
 have hdd : ((d + 1 : Nat) : Int) - 1 = (d : Int) := by omega
 have hds : (d : Int) + 1 - 1 = (d : Int) := by omega
 have hd1 : decide (((d + 1 : Nat) : Int) < 1) = false := decide_eq_false (by omega)
 have ha0 : decide ((a : Int) < 0) = false := decide_eq_false (by omega)
 have hai : (a : Int) < (s.size : Int) := by omega
 have hag : decide ((s.size : Int) ≤ (a : Int)) = false := decide_eq_false (by omega)
 have g42 : ((s[a].toNat : Int) == 42) = false := by rw [beq_eq_false_iff_ne]; omega
 have g78 : ((s[a].toNat : Int) == 78) = false := by rw [beq_eq_false_iff_ne]; omega
 have g48 : ((s[a].toNat : Int) == 48) = false := by rw [beq_eq_false_iff_ne]; omega
 have g43 : ((s[a].toNat : Int) == 43) = false := by rw [beq_eq_false_iff_ne]; omega
 have g33 : ((s[a].toNat : Int) == 33) = false := by rw [beq_eq_false_iff_ne]; omega
 have g94 : ((s[a].toNat : Int) == 94) = false := by rw [beq_eq_false_iff_ne]; omega
 have g95 : ((s[a].toNat : Int) == 95) = false := by rw [beq_eq_false_iff_ne]; omega
 have g40 : ((s[a].toNat : Int) == 40) = true := by rw [beq_iff_eq]; omega
 obtain ⟨o, ho⟩ : ∃ o : Option (Tm × Nat), o = nptRound s (npt s d) (bl nm nm.size) (a + 1) := ⟨_, rfl⟩
 have hpt : npt s (d + 1) (bl nm nm.size) a = o := by rw [npt, if_pos ha, byteAt_eq ha, if_neg (by omega), if_neg (by omega), if_pos (by omega), ho]
 have HC : Hid (∀ W, Calls Tryz.prog 75 #[.string s, .int .i64 ((a : Int) + 1), .string nm, .int .i64 d] W (PPost s W o)) := tuck fun W => by
  have := round6_any s hs d B hB ih nm hnm (a + 1) (by omega) W
  rw [ho]
  rwa [show ((a + 1 : Nat) : Int) = (a : Int) + 1 by omega] at this
 have HYES : Hid (∀ (T : Tm) (a' : Option Addr) (c' : Nat) (nx : Int) (w' : World), Below w.heap.size w w' → SlIn w' w.heap.size T.kids (.slice a' T.kids.length c') → PNx s T nx o → post (.returned (.tuple #[.agg #[.int .i64 T.kind, .int .i64 T.num, .slice a' T.kids.length c'], .int .i64 nx])) w') := tuck fun T a' c' nx w' hb hs' hm => by
  rw [hpost, hpt]
  exact ⟨hb, T, a', c', nx, rfl, hs', by cases o <;> exact hm⟩
 clear hpost hpt ih ho HNO0
 go_enter Tryz.func47, Tryz.ntmps47
 go_wp2_with fail
 generalize w.alloc (.cells #[.int .i64 0, .int .i64 0, .slice none 0 0] 25) = W1 at *
 refine (HC.out _).mono ?_
 rintro e w3 ⟨hb3, T, ta, tc, nx, rfl, hs3, hm⟩
 have hzz := HV1.out.facts.1
 obtain ⟨z1, r0, r1, r2, rf⟩ := (HV1.out.below hb3).facts
 have HB3 := tuck (bAfter HB1.out hb3)
 have HS3 : Hid (SlIn w3 (w.heap.size + 1) T.kids (.slice ta T.kids.length tc)) := tuck (hs3.mono hzz)
 have HM : Hid (PNx s T nx o) := tuck hm
 clear hb3 hs3 hm hzz
 go_wp2_with fail
 refine bodyPost_ret (v := .tuple #[.agg #[.int .i64 T.kind, .int .i64 T.num, .slice ta T.kids.length tc], .int .i64 nx]) (by simp [results, Tryz.results47, go_sem, *]) rfl (HYES.out T ta tc nx _ ?_ ?_ HM.out)
 ·exact bSet3 HB3.out (Nat.le_refl _) _ _ _ _ _ _
 ·exact (SlIn.set3 HS3.out (Nat.lt_succ_self _)).mono (Nat.le_succ _)
set_option maxRecDepth 100000 in
set_option maxHeartbeats 2000000 in
theorem n6_91 (s : ByteArray) (hs : s.size ≤ 1152921504606846976) (d : Nat) (hd : d + 1 ≤ 100) (B : Nat) (hB : B ≤ 1000) (ih : N6Ok s d (B + 1)) (nm : ByteArray) (a : Nat) (w : World) (hnm : nm.size ≤ B) (ha : a < s.size) (h91 : s[a].toNat = 91) : Calls Tryz.prog 47 #[.string s, .int .i64 a, .string nm, .int .i64 ((d + 1 : Nat) : Int)] w (PPost s w (npt s (d + 1) (bl nm nm.size) a)) := by
 obtain ⟨post, hpost⟩ : ∃ post : Ending → World → Prop, post = PPost s w (npt s (d + 1) (bl nm nm.size) a) := ⟨_, rfl⟩
 rw [← hpost]
 have HNO0 : Hid (npt s (d + 1) (bl nm nm.size) a = none → ∀ w', Below w.heap.size w w' → post (.returned (.tuple #[.agg #[.int .i64 0, .int .i64 0, .slice none 0 0], .int .i64 (-1)])) w') := tuck fun h w' hb => by rw [hpost, h]; exact PPost.zero hb
 have HB1 := tuck (below1 w (.cells #[.int .i64 0, .int .i64 0, .slice none 0 0] 25))
 have HV1 := tuck (VarAt.new w 0 0 (.slice none 0 0))
 have hdd : ((d + 1 : Nat) : Int) - 1 = (d : Int) := by omega
 have hds : (d : Int) + 1 - 1 = (d : Int) := by omega
 have hd1 : decide (((d + 1 : Nat) : Int) < 1) = false := decide_eq_false (by omega)
 have ha0 : decide ((a : Int) < 0) = false := decide_eq_false (by omega)
 have hai : (a : Int) < (s.size : Int) := by omega
 have hag : decide ((s.size : Int) ≤ (a : Int)) = false := decide_eq_false (by omega)
 have g42 : ((s[a].toNat : Int) == 42) = false := by rw [beq_eq_false_iff_ne]; omega
 have g78 : ((s[a].toNat : Int) == 78) = false := by rw [beq_eq_false_iff_ne]; omega
 have g48 : ((s[a].toNat : Int) == 48) = false := by rw [beq_eq_false_iff_ne]; omega
 have g43 : ((s[a].toNat : Int) == 43) = false := by rw [beq_eq_false_iff_ne]; omega
 have g33 : ((s[a].toNat : Int) == 33) = false := by rw [beq_eq_false_iff_ne]; omega
 have g94 : ((s[a].toNat : Int) == 94) = false := by rw [beq_eq_false_iff_ne]; omega
 have g95 : ((s[a].toNat : Int) == 95) = false := by rw [beq_eq_false_iff_ne]; omega
 have g40 : ((s[a].toNat : Int) == 40) = false := by rw [beq_eq_false_iff_ne]; omega
 have g91 : ((s[a].toNat : Int) == 91) = true := by rw [beq_iff_eq]; omega
 obtain ⟨o, ho⟩ : ∃ o : Option (Tm × Nat), o = nptFun s (npt s d) (bl nm nm.size) (a + 1) := ⟨_, rfl⟩
 have hpt : npt s (d + 1) (bl nm nm.size) a = o := by rw [npt, if_pos ha, byteAt_eq ha, if_neg (by omega), if_neg (by omega), if_neg (by omega), if_pos (by omega), ho]
 have HC : Hid (∀ W, Calls Tryz.prog 76 #[.string s, .int .i64 ((a : Int) + 1), .string nm, .int .i64 d] W (PPost s W o)) := tuck fun W => by
  have := square6_any s hs d B hB ih nm hnm (a + 1) (by omega) W
  rw [ho]
  rwa [show ((a + 1 : Nat) : Int) = (a : Int) + 1 by omega] at this
 have HYES : Hid (∀ (T : Tm) (a' : Option Addr) (c' : Nat) (nx : Int) (w' : World), Below w.heap.size w w' → SlIn w' w.heap.size T.kids (.slice a' T.kids.length c') → PNx s T nx o → post (.returned (.tuple #[.agg #[.int .i64 T.kind, .int .i64 T.num, .slice a' T.kids.length c'], .int .i64 nx])) w') := tuck fun T a' c' nx w' hb hs' hm => by
  rw [hpost, hpt]
  exact ⟨hb, T, a', c', nx, rfl, hs', by cases o <;> exact hm⟩
 clear hpost hpt ih ho HNO0
 go_enter Tryz.func47, Tryz.ntmps47
 go_wp2_with fail
 generalize w.alloc (.cells #[.int .i64 0, .int .i64 0, .slice none 0 0] 25) = W1 at *
 refine (HC.out _).mono ?_
 rintro e w3 ⟨hb3, T, ta, tc, nx, rfl, hs3, hm⟩
 have hzz := HV1.out.facts.1
 obtain ⟨z1, r0, r1, r2, rf⟩ := (HV1.out.below hb3).facts
 have HB3 := tuck (bAfter HB1.out hb3)
 have HS3 : Hid (SlIn w3 (w.heap.size + 1) T.kids (.slice ta T.kids.length tc)) := tuck (hs3.mono hzz)
 have HM : Hid (PNx s T nx o) := tuck hm
 clear hb3 hs3 hm hzz
 go_wp2_with fail
 refine bodyPost_ret (v := .tuple #[.agg #[.int .i64 T.kind, .int .i64 T.num, .slice ta T.kids.length tc], .int .i64 nx]) (by simp [results, Tryz.results47, go_sem, *]) rfl (HYES.out T ta tc nx _ ?_ ?_ HM.out)
 ·exact bSet3 HB3.out (Nat.le_refl _) _ _ _ _ _ _
 ·exact (SlIn.set3 HS3.out (Nat.lt_succ_self _)).mono (Nat.le_succ _)
set_option maxRecDepth 100000 in
set_option maxHeartbeats 2000000 in
theorem n6_end (s : ByteArray) (hs : s.size ≤ 1152921504606846976) (d : Nat) (hd : d + 1 ≤ 100) (B : Nat) (hB : B ≤ 1000) (ih : N6Ok s d (B + 1)) (nm : ByteArray) (a : Nat) (w : World) (hnm : nm.size ≤ B) (ha : ¬ a < s.size) : Calls Tryz.prog 47 #[.string s, .int .i64 a, .string nm, .int .i64 ((d + 1 : Nat) : Int)] w (PPost s w (npt s (d + 1) (bl nm nm.size) a)) := by
 obtain ⟨post, hpost⟩ : ∃ post : Ending → World → Prop, post = PPost s w (npt s (d + 1) (bl nm nm.size) a) := ⟨_, rfl⟩
 rw [← hpost]
 have HNO0 : Hid (npt s (d + 1) (bl nm nm.size) a = none → ∀ w', Below w.heap.size w w' → post (.returned (.tuple #[.agg #[.int .i64 0, .int .i64 0, .slice none 0 0], .int .i64 (-1)])) w') := tuck fun h w' hb => by rw [hpost, h]; exact PPost.zero hb
 have HB1 := tuck (below1 w (.cells #[.int .i64 0, .int .i64 0, .slice none 0 0] 25))
 have HV1 := tuck (VarAt.new w 0 0 (.slice none 0 0))
 have hdd : ((d + 1 : Nat) : Int) - 1 = (d : Int) := by omega
 have hds : (d : Int) + 1 - 1 = (d : Int) := by omega
 have hd1 : decide (((d + 1 : Nat) : Int) < 1) = false := decide_eq_false (by omega)
 have ha0 : decide ((a : Int) < 0) = false := decide_eq_false (by omega)
 have hag : decide ((s.size : Int) ≤ (a : Int)) = true := decide_eq_true (by omega)
 have HNO := tuck (HNO0.out (by rw [npt, if_neg ha]))
 clear hpost HNO0 ih
 go_enter Tryz.func47, Tryz.ntmps47
 go_wp2_with fail
 refine bodyPost_ret (v := .tuple #[.agg #[.int .i64 0, .int .i64 0, .slice none 0 0], .int .i64 (-1)]) (by simp [results, Tryz.results47, go_sem, *]) rfl (HNO.out _ ?_)
 first | exact HB1.out | exact bSet3 HB1.out (Nat.le_refl _) _ _ _ _ _ _
set_option maxRecDepth 100000 in
set_option maxHeartbeats 2000000 in
theorem n6_zero (s : ByteArray) (B : Nat) : N6Ok s 0 B := fun nm a w hnm => by
 obtain ⟨post, hpost⟩ : ∃ post : Ending → World → Prop, post = PPost s w (npt s 0 (bl nm nm.size) a) := ⟨_, rfl⟩
 rw [← hpost]
 have HNO : Hid (∀ w', Below w.heap.size w w' → post (.returned (.tuple #[.agg #[.int .i64 0, .int .i64 0, .slice none 0 0], .int .i64 (-1)])) w') := tuck fun w' hb => by rw [hpost, npt]; exact PPost.zero hb
 have HB1 := tuck (below1 w (.cells #[.int .i64 0, .int .i64 0, .slice none 0 0] 25))
 clear hpost
 go_enter Tryz.func47, Tryz.ntmps47
 go_wp2_with fail
 refine bodyPost_ret (v := .tuple #[.agg #[.int .i64 0, .int .i64 0, .slice none 0 0], .int .i64 (-1)]) (by simp [results, Tryz.results47, go_sem, *]) rfl (HNO.out _ ?_)
 first | exact HB1.out | exact bSet3 HB1.out (Nat.le_refl _) _ _ _ _ _ _
theorem n6_succ (s : ByteArray) (hs : s.size ≤ 1152921504606846976) (d : Nat) (hd : d + 1 ≤ 100) (B : Nat) (hB : B ≤ 1000) (ih : N6Ok s d (B + 1)) : N6Ok s (d + 1) B := fun nm a w hnm => by
 by_cases ha : a < s.size
 ·by_cases h42 : s[a].toNat = 42
  ·exact n6_42 s hs d hd B hB ih nm a w hnm ha h42
  by_cases h78 : s[a].toNat = 78
  ·exact n6_78 s hs d hd B hB ih nm a w hnm ha h78
  by_cases h48 : s[a].toNat = 48
  ·exact n6_48 s hs d hd B hB ih nm a w hnm ha h48
  by_cases h43 : s[a].toNat = 43
  ·exact n6_43 s hs d hd B hB ih nm a w hnm ha h43
  by_cases h33 : s[a].toNat = 33
  ·exact n6_33 s hs d hd B hB ih nm a w hnm ha h33
  by_cases h94 : s[a].toNat = 94
  ·exact n6_94 s hs d hd B hB ih nm a w hnm ha h94
  by_cases h95 : s[a].toNat = 95
  ·exact n6_95 s hs d hd B hB ih nm a w hnm ha h95
  by_cases h40 : s[a].toNat = 40
  ·exact n6_40 s hs d hd B hB ih nm a w hnm ha h40
  by_cases h91 : s[a].toNat = 91
  ·exact n6_91 s hs d hd B hB ih nm a w hnm ha h91
  cases hl : ltr (s[a].toNat : Int)
  ·exact n6_block s hs d hd B hB ih nm a w hnm ha hl h42 h78 h48 h43 h33 h94 h95 h40 h91
  ·exact n6_letter s hs d hd B hB ih nm a w hnm ha hl
 ·exact n6_end s hs d hd B hB ih nm a w hnm ha
theorem parse6_ok (s : ByteArray) (hs : s.size ≤ 1152921504606846976) : ∀ d, d ≤ 100 → ∀ B, B + d ≤ 1000 → N6Ok s d B
 | 0, _, B, _ => n6_zero s B
 | d + 1, hd, B, hB => n6_succ s hs d hd B (by omega) (parse6_ok s hs d (by omega) (B + 1) (by omega))
end Go.Proofs.YtjdmfegdgpbkgaaGreat
