/-
  ParseE.
-/
import Derived.Test.YtpddjebdncaceaaGreatR41
namespace Go.Proofs.YtpddjebdncaceaaGreat
open Go.RowKit
def PNx (s : ByteArray) (T : Tm) (nx : Int) : Option (Tm × Nat) → Prop
 | none => nx = -1
 | some x => T = x.1 ∧ nx = (x.2 : Int) ∧ x.2 ≤ s.size
def numEnd : Option (Nat × Nat) → Ending
 | some x => .returned (.tuple #[.int .i64 x.1, .int .i64 x.2])
 | none => .returned (.tuple #[.int .i64 0, .int .i64 (-1)])
set_option maxRecDepth 100000 in
set_option maxHeartbeats 8000000 in
theorem parse_succ (s : ByteArray) (hs : s.size ≤ 1152921504606846976) (d : Nat) (hd : d + 1 ≤ 100) (ih : d ≤ 100 → ParseOk s d) (a : Nat) (w : World) : Calls Tryz.prog 129 #[.string s, .int .i64 a, .int .i64 ((d + 1 : Nat) : Int)] w (PPost s w (pt s (d + 1) a)) := by
 obtain ⟨post, hpost⟩ : ∃ post : Ending → World → Prop, post = PPost s w (pt s (d + 1) a) := ⟨_, rfl⟩
 rw [← hpost]
 have HNO0 : Hid (pt s (d + 1) a = none → ∀ w', Below w.heap.size w w' → post (.returned (.tuple #[.agg #[.int .i64 0, .int .i64 0, .slice none 0 0], .int .i64 (-1)])) w') := tuck fun h w' hb => by rw [hpost, h]; exact PPost.zero hb
 have HB1 := tuck (below1 w (.cells #[.int .i64 0, .int .i64 0, .slice none 0 0] 34))
 have HV1 := tuck (VarAt.new w 0 0 (.slice none 0 0))
 have hdd : ((d + 1 : Nat) : Int) - 1 = (d : Int) := by omega
 have hds : (d : Int) + 1 - 1 = (d : Int) := by omega
 have hd1 : decide (((d + 1 : Nat) : Int) < 1) = false := decide_eq_false (by omega)
 have ha0 : decide ((a : Int) < 0) = false := decide_eq_false (by omega)
 by_cases ha : a < s.size
 ·have hai : (a : Int) < (s.size : Int) := by omega
  have hag : decide ((s.size : Int) ≤ (a : Int)) = false := decide_eq_false (by omega)
  by_cases h35 : s[a].toNat = 35
  ·have g35 : ((s[a].toNat : Int) == 35) = true := by rw [beq_iff_eq]; omega
   obtain ⟨o1, ho1⟩ : ∃ o1, o1 = ptNum s (a + 1) 2 := ⟨_, rfl⟩
   have HNUM : Hid (∀ W, Calls Tryz.prog 139 #[.string s, .int .i64 ((a : Int) + 1), .int .i64 2] W fun e w' => w' = W ∧ e = numEnd o1) := tuck fun W => by
    have := lnumber_any s (a + 1) 2 (by omega) hs (by decide) W
    rw [show ((a + 1 : Nat) : Int) = (a : Int) + 1 by omega] at this
    rw [ho1]
    refine this.mono ?_
    rintro e w' ⟨h1, h2⟩
    refine ⟨h1, h2.trans ?_⟩
    cases ptNum s (a + 1) 2 <;> rfl
   have hpt : pt s (d + 1) a = o1.map fun x => (.mk 1 x.1 [], x.2) := by rw [pt, if_pos ha, byteAt_eq ha, if_pos h35, ho1]
   have HLE : Hid (∀ x, o1 = some x → x.2 ≤ s.size) := tuck fun x hx => ptNum_le (a := a + 1) (d := 2) (by omega) (by rw [← ho1]; exact hx)
   obtain ⟨o, ho⟩ : ∃ o, o = o1.map fun x => (Tm.mk 1 x.1 [], x.2) := ⟨_, rfl⟩
   rw [← ho] at hpt
   have HYES : Hid (∀ (T : Tm) (a' : Option Addr) (c' : Nat) (nx : Int) (w' : World), Below w.heap.size w w' → SlIn w' w.heap.size T.kids (.slice a' T.kids.length c') → PNx s T nx o → post (.returned (.tuple #[.agg #[.int .i64 T.kind, .int .i64 T.num, .slice a' T.kids.length c'], .int .i64 nx])) w') := tuck fun T a' c' nx w' hb hs' hm => by
    rw [hpost, hpt]
    exact ⟨hb, T, a', c', nx, rfl, hs', by cases o <;> exact hm⟩
   clear hpost hpt ho1 ih
   cases o1 with
   | none =>
    obtain rfl : o = none := ho
    have HNUM2 : Hid (∀ W, Calls Tryz.prog 139 #[.string s, .int .i64 ((a : Int) + 1), .int .i64 2] W fun e w' => w' = W ∧ e = .returned (.tuple #[.int .i64 0, .int .i64 (-1)])) := tuck fun W => HNUM.out W
    clear HNUM
    go_enter Tryz.func129, Tryz.ntmps129
    go_wp2_with fail
    generalize w.alloc (.cells #[.int .i64 0, .int .i64 0, .slice none 0 0] 34) = W1 at *
    refine (HNUM2.out _).mono ?_
    rintro e w2 ⟨rfl, rfl⟩
    go_wp2_with fail
    refine (leaf_any 1 0 _).mono ?_
    rintro e w3 ⟨rfl, hb3⟩
    obtain ⟨z1, r0, r1, r2, rf⟩ := (HV1.out.below hb3).facts
    have HB3 := tuck (bAfter HB1.out hb3)
    clear hb3
    go_wp2_with fail
    refine bodyPost_ret (v := .tuple #[.agg #[.int .i64 1, .int .i64 0, .slice none 0 0], .int .i64 (-1)]) (by simp [results, Tryz.results129, go_sem, *]) rfl (HYES.out (.mk 1 0 []) none 0 (-1) _ ?_ (SlIn.nil _ _ _ _) rfl)
    exact bSet3 HB3.out (Nat.le_refl _) _ _ _ _ _ _
   | some x =>
    obtain ⟨x1, x2⟩ := x
    obtain rfl : o = some (.mk 1 x1 [], x2) := ho
    have hle := HLE.out _ rfl
    have HLE2 := tuck hle
    clear hle
    have HNUM2 : Hid (∀ W, Calls Tryz.prog 139 #[.string s, .int .i64 ((a : Int) + 1), .int .i64 2] W fun e w' => w' = W ∧ e = .returned (.tuple #[.int .i64 x1, .int .i64 x2])) := tuck fun W => HNUM.out W
    clear HNUM
    go_enter Tryz.func129, Tryz.ntmps129
    go_wp2_with fail
    generalize w.alloc (.cells #[.int .i64 0, .int .i64 0, .slice none 0 0] 34) = W1 at *
    refine (HNUM2.out _).mono ?_
    rintro e w2 ⟨rfl, rfl⟩
    go_wp2_with fail
    refine (leaf_any 1 x1 _).mono ?_
    rintro e w3 ⟨rfl, hb3⟩
    obtain ⟨z1, r0, r1, r2, rf⟩ := (HV1.out.below hb3).facts
    have HB3 := tuck (bAfter HB1.out hb3)
    clear hb3
    go_wp2_with fail
    refine bodyPost_ret (v := .tuple #[.agg #[.int .i64 1, .int .i64 x1, .slice none 0 0], .int .i64 x2]) (by simp [results, Tryz.results129, go_sem, *]) rfl (HYES.out (.mk 1 x1 []) none 0 x2 _ ?_ (SlIn.nil _ _ _ _) ⟨rfl, rfl, HLE2.out⟩)
    exact bSet3 HB3.out (Nat.le_refl _) _ _ _ _ _ _
  by_cases h42 : s[a].toNat = 42
  ·have g35 : ((s[a].toNat : Int) == 35) = false := by rw [beq_eq_false_iff_ne]; omega
   have g42 : ((s[a].toNat : Int) == 42) = true := by rw [beq_iff_eq]; omega
   obtain ⟨o1, ho1⟩ : ∃ o1, o1 = ptNum s (a + 1) 1 := ⟨_, rfl⟩
   have HNUM : Hid (∀ W, Calls Tryz.prog 139 #[.string s, .int .i64 ((a : Int) + 1), .int .i64 1] W fun e w' => w' = W ∧ e = numEnd o1) := tuck fun W => by
    have := lnumber_any s (a + 1) 1 (by omega) hs (by decide) W
    rw [show ((a + 1 : Nat) : Int) = (a : Int) + 1 by omega] at this
    rw [ho1]
    refine this.mono ?_
    rintro e w' ⟨h1, h2⟩
    refine ⟨h1, h2.trans ?_⟩
    cases ptNum s (a + 1) 1 <;> rfl
   have hpt : pt s (d + 1) a = o1.map fun x => (.mk 2 x.1 [], x.2) := by rw [pt, if_pos ha, byteAt_eq ha, if_neg h35, if_pos h42, ho1]
   have HLE : Hid (∀ x, o1 = some x → x.2 ≤ s.size) := tuck fun x hx => ptNum_le (a := a + 1) (d := 1) (by omega) (by rw [← ho1]; exact hx)
   obtain ⟨o, ho⟩ : ∃ o, o = o1.map fun x => (Tm.mk 2 x.1 [], x.2) := ⟨_, rfl⟩
   rw [← ho] at hpt
   have HYES : Hid (∀ (T : Tm) (a' : Option Addr) (c' : Nat) (nx : Int) (w' : World), Below w.heap.size w w' → SlIn w' w.heap.size T.kids (.slice a' T.kids.length c') → PNx s T nx o → post (.returned (.tuple #[.agg #[.int .i64 T.kind, .int .i64 T.num, .slice a' T.kids.length c'], .int .i64 nx])) w') := tuck fun T a' c' nx w' hb hs' hm => by
    rw [hpost, hpt]
    exact ⟨hb, T, a', c', nx, rfl, hs', by cases o <;> exact hm⟩
   clear hpost hpt ho1 ih
   cases o1 with
   | none =>
    obtain rfl : o = none := ho
    have HNUM2 : Hid (∀ W, Calls Tryz.prog 139 #[.string s, .int .i64 ((a : Int) + 1), .int .i64 1] W fun e w' => w' = W ∧ e = .returned (.tuple #[.int .i64 0, .int .i64 (-1)])) := tuck fun W => HNUM.out W
    clear HNUM
    go_enter Tryz.func129, Tryz.ntmps129
    go_wp2_with fail
    generalize w.alloc (.cells #[.int .i64 0, .int .i64 0, .slice none 0 0] 34) = W1 at *
    refine (HNUM2.out _).mono ?_
    rintro e w2 ⟨rfl, rfl⟩
    go_wp2_with fail
    refine (leaf_any 2 0 _).mono ?_
    rintro e w3 ⟨rfl, hb3⟩
    obtain ⟨z1, r0, r1, r2, rf⟩ := (HV1.out.below hb3).facts
    have HB3 := tuck (bAfter HB1.out hb3)
    clear hb3
    go_wp2_with fail
    refine bodyPost_ret (v := .tuple #[.agg #[.int .i64 2, .int .i64 0, .slice none 0 0], .int .i64 (-1)]) (by simp [results, Tryz.results129, go_sem, *]) rfl (HYES.out (.mk 2 0 []) none 0 (-1) _ ?_ (SlIn.nil _ _ _ _) rfl)
    exact bSet3 HB3.out (Nat.le_refl _) _ _ _ _ _ _
   | some x =>
    obtain ⟨x1, x2⟩ := x
    obtain rfl : o = some (.mk 2 x1 [], x2) := ho
    have hle := HLE.out _ rfl
    have HLE2 := tuck hle
    clear hle
    have HNUM2 : Hid (∀ W, Calls Tryz.prog 139 #[.string s, .int .i64 ((a : Int) + 1), .int .i64 1] W fun e w' => w' = W ∧ e = .returned (.tuple #[.int .i64 x1, .int .i64 x2])) := tuck fun W => HNUM.out W
    clear HNUM
    go_enter Tryz.func129, Tryz.ntmps129
    go_wp2_with fail
    generalize w.alloc (.cells #[.int .i64 0, .int .i64 0, .slice none 0 0] 34) = W1 at *
    refine (HNUM2.out _).mono ?_
    rintro e w2 ⟨rfl, rfl⟩
    go_wp2_with fail
    refine (leaf_any 2 x1 _).mono ?_
    rintro e w3 ⟨rfl, hb3⟩
    obtain ⟨z1, r0, r1, r2, rf⟩ := (HV1.out.below hb3).facts
    have HB3 := tuck (bAfter HB1.out hb3)
    clear hb3
    go_wp2_with fail
    refine bodyPost_ret (v := .tuple #[.agg #[.int .i64 2, .int .i64 x1, .slice none 0 0], .int .i64 x2]) (by simp [results, Tryz.results129, go_sem, *]) rfl (HYES.out (.mk 2 x1 []) none 0 x2 _ ?_ (SlIn.nil _ _ _ _) ⟨rfl, rfl, HLE2.out⟩)
    exact bSet3 HB3.out (Nat.le_refl _) _ _ _ _ _ _
  by_cases h78 : s[a].toNat = 78
  ·have g35 : ((s[a].toNat : Int) == 35) = false := by rw [beq_eq_false_iff_ne]; omega
   have g42 : ((s[a].toNat : Int) == 42) = false := by rw [beq_eq_false_iff_ne]; omega
   have g78 : ((s[a].toNat : Int) == 78) = true := by rw [beq_iff_eq]; omega
   obtain ⟨o, ho⟩ : ∃ o : Option (Tm × Nat), o = some (.mk 6 0 [], a + 1) := ⟨_, rfl⟩
   have hpt : pt s (d + 1) a = o := by rw [pt, if_pos ha, byteAt_eq ha, if_neg h35, if_neg h42, if_pos h78, ho]
   have HYES : Hid (∀ (T : Tm) (a' : Option Addr) (c' : Nat) (nx : Int) (w' : World), Below w.heap.size w w' → SlIn w' w.heap.size T.kids (.slice a' T.kids.length c') → PNx s T nx o → post (.returned (.tuple #[.agg #[.int .i64 T.kind, .int .i64 T.num, .slice a' T.kids.length c'], .int .i64 nx])) w') := tuck fun T a' c' nx w' hb hs' hm => by
    rw [hpost, hpt]
    exact ⟨hb, T, a', c', nx, rfl, hs', by cases o <;> exact hm⟩
   clear hpost hpt ih
   subst ho
   have HAX : Hid (a + 1 ≤ s.size) := tuck (by omega)
   go_enter Tryz.func129, Tryz.ntmps129
   go_wp2_with fail
   generalize w.alloc (.cells #[.int .i64 0, .int .i64 0, .slice none 0 0] 34) = W1 at *
   refine (leaf_any 6 0 _).mono ?_
   rintro e w3 ⟨rfl, hb3⟩
   obtain ⟨z1, r0, r1, r2, rf⟩ := (HV1.out.below hb3).facts
   have HB3 := tuck (bAfter HB1.out hb3)
   clear hb3
   go_wp2_with fail
   refine bodyPost_ret (v := .tuple #[.agg #[.int .i64 6, .int .i64 0, .slice none 0 0], .int .i64 ((a : Int) + 1)]) (by simp [results, Tryz.results129, go_sem, *]) rfl (HYES.out (.mk 6 0 []) none 0 ((a : Int) + 1) _ ?_ (SlIn.nil _ _ _ _) ⟨rfl, by show (a : Int) + 1 = ((a + 1 : Nat) : Int); omega, HAX.out⟩)
   exact bSet3 HB3.out (Nat.le_refl _) _ _ _ _ _ _
  by_cases h48 : s[a].toNat = 48
  ·have g35 : ((s[a].toNat : Int) == 35) = false := by rw [beq_eq_false_iff_ne]; omega
   have g42 : ((s[a].toNat : Int) == 42) = false := by rw [beq_eq_false_iff_ne]; omega
   have g78 : ((s[a].toNat : Int) == 78) = false := by rw [beq_eq_false_iff_ne]; omega
   have g48 : ((s[a].toNat : Int) == 48) = true := by rw [beq_iff_eq]; omega
   obtain ⟨o, ho⟩ : ∃ o : Option (Tm × Nat), o = some (.mk 7 0 [], a + 1) := ⟨_, rfl⟩
   have hpt : pt s (d + 1) a = o := by rw [pt, if_pos ha, byteAt_eq ha, if_neg h35, if_neg h42, if_neg h78, if_pos h48, ho]
   have HYES : Hid (∀ (T : Tm) (a' : Option Addr) (c' : Nat) (nx : Int) (w' : World), Below w.heap.size w w' → SlIn w' w.heap.size T.kids (.slice a' T.kids.length c') → PNx s T nx o → post (.returned (.tuple #[.agg #[.int .i64 T.kind, .int .i64 T.num, .slice a' T.kids.length c'], .int .i64 nx])) w') := tuck fun T a' c' nx w' hb hs' hm => by
    rw [hpost, hpt]
    exact ⟨hb, T, a', c', nx, rfl, hs', by cases o <;> exact hm⟩
   clear hpost hpt ih
   subst ho
   have HAX : Hid (a + 1 ≤ s.size) := tuck (by omega)
   go_enter Tryz.func129, Tryz.ntmps129
   go_wp2_with fail
   generalize w.alloc (.cells #[.int .i64 0, .int .i64 0, .slice none 0 0] 34) = W1 at *
   refine (leaf_any 7 0 _).mono ?_
   rintro e w3 ⟨rfl, hb3⟩
   obtain ⟨z1, r0, r1, r2, rf⟩ := (HV1.out.below hb3).facts
   have HB3 := tuck (bAfter HB1.out hb3)
   clear hb3
   go_wp2_with fail
   refine bodyPost_ret (v := .tuple #[.agg #[.int .i64 7, .int .i64 0, .slice none 0 0], .int .i64 ((a : Int) + 1)]) (by simp [results, Tryz.results129, go_sem, *]) rfl (HYES.out (.mk 7 0 []) none 0 ((a : Int) + 1) _ ?_ (SlIn.nil _ _ _ _) ⟨rfl, by show (a : Int) + 1 = ((a + 1 : Nat) : Int); omega, HAX.out⟩)
   exact bSet3 HB3.out (Nat.le_refl _) _ _ _ _ _ _
  by_cases h43 : s[a].toNat = 43
  ·have g35 : ((s[a].toNat : Int) == 35) = false := by rw [beq_eq_false_iff_ne]; omega
   have g42 : ((s[a].toNat : Int) == 42) = false := by rw [beq_eq_false_iff_ne]; omega
   have g78 : ((s[a].toNat : Int) == 78) = false := by rw [beq_eq_false_iff_ne]; omega
   have g48 : ((s[a].toNat : Int) == 48) = false := by rw [beq_eq_false_iff_ne]; omega
   have g43 : ((s[a].toNat : Int) == 43) = true := by rw [beq_iff_eq]; omega
   obtain ⟨o, ho⟩ : ∃ o : Option (Tm × Nat), o = (pt s d (a + 1)).map fun x => (.mk (preKind (byteAt s a)) 0 [x.1], x.2) := ⟨_, rfl⟩
   have hpt : pt s (d + 1) a = o := by rw [ho]; rw [pt, if_pos ha, byteAt_eq ha, if_neg h35, if_neg h42, if_neg h78, if_neg h48, if_pos (Or.inl h43)]
   have HC : Hid (∀ W, Calls Tryz.prog 140 #[.string s, .int .i64 a, .int .i64 ((d + 1 : Nat) : Int)] W (PPost s W o)) := tuck fun W => by rw [ho]; exact prefix_any s hs d (by omega) (ih (by omega)) a ha W
   have HYES : Hid (∀ (T : Tm) (a' : Option Addr) (c' : Nat) (nx : Int) (w' : World), Below w.heap.size w w' → SlIn w' w.heap.size T.kids (.slice a' T.kids.length c') → PNx s T nx o → post (.returned (.tuple #[.agg #[.int .i64 T.kind, .int .i64 T.num, .slice a' T.kids.length c'], .int .i64 nx])) w') := tuck fun T a' c' nx w' hb hs' hm => by
    rw [hpost, hpt]
    exact ⟨hb, T, a', c', nx, rfl, hs', by cases o <;> exact hm⟩
   clear hpost hpt ih ho
   go_enter Tryz.func129, Tryz.ntmps129
   go_wp2_with fail
   generalize w.alloc (.cells #[.int .i64 0, .int .i64 0, .slice none 0 0] 34) = W1 at *
   refine (HC.out _).mono ?_
   rintro e w3 ⟨hb3, T, ta, tc, nx, rfl, hs3, hm⟩
   have hzz := HV1.out.facts.1
   obtain ⟨z1, r0, r1, r2, rf⟩ := (HV1.out.below hb3).facts
   have HB3 := tuck (bAfter HB1.out hb3)
   have HS3 : Hid (SlIn w3 (w.heap.size + 1) T.kids (.slice ta T.kids.length tc)) := tuck (hs3.mono hzz)
   have HM : Hid (PNx s T nx o) := tuck hm
   clear hb3 hs3 hm hzz
   go_wp2_with fail
   refine bodyPost_ret (v := .tuple #[.agg #[.int .i64 T.kind, .int .i64 T.num, .slice ta T.kids.length tc], .int .i64 nx]) (by simp [results, Tryz.results129, go_sem, *]) rfl (HYES.out T ta tc nx _ ?_ ?_ HM.out)
   ·exact bSet3 HB3.out (Nat.le_refl _) _ _ _ _ _ _
   ·exact (SlIn.set3 HS3.out (Nat.lt_succ_self _)).mono (Nat.le_succ _)
  by_cases h33 : s[a].toNat = 33
  ·have g35 : ((s[a].toNat : Int) == 35) = false := by rw [beq_eq_false_iff_ne]; omega
   have g42 : ((s[a].toNat : Int) == 42) = false := by rw [beq_eq_false_iff_ne]; omega
   have g78 : ((s[a].toNat : Int) == 78) = false := by rw [beq_eq_false_iff_ne]; omega
   have g48 : ((s[a].toNat : Int) == 48) = false := by rw [beq_eq_false_iff_ne]; omega
   have g43 : ((s[a].toNat : Int) == 43) = false := by rw [beq_eq_false_iff_ne]; omega
   have g33 : ((s[a].toNat : Int) == 33) = true := by rw [beq_iff_eq]; omega
   obtain ⟨o, ho⟩ : ∃ o : Option (Tm × Nat), o = (pt s d (a + 1)).map fun x => (.mk (preKind (byteAt s a)) 0 [x.1], x.2) := ⟨_, rfl⟩
   have hpt : pt s (d + 1) a = o := by rw [ho]; rw [pt, if_pos ha, byteAt_eq ha, if_neg h35, if_neg h42, if_neg h78, if_neg h48, if_pos (Or.inr (Or.inl h33))]
   have HC : Hid (∀ W, Calls Tryz.prog 140 #[.string s, .int .i64 a, .int .i64 ((d + 1 : Nat) : Int)] W (PPost s W o)) := tuck fun W => by rw [ho]; exact prefix_any s hs d (by omega) (ih (by omega)) a ha W
   have HYES : Hid (∀ (T : Tm) (a' : Option Addr) (c' : Nat) (nx : Int) (w' : World), Below w.heap.size w w' → SlIn w' w.heap.size T.kids (.slice a' T.kids.length c') → PNx s T nx o → post (.returned (.tuple #[.agg #[.int .i64 T.kind, .int .i64 T.num, .slice a' T.kids.length c'], .int .i64 nx])) w') := tuck fun T a' c' nx w' hb hs' hm => by
    rw [hpost, hpt]
    exact ⟨hb, T, a', c', nx, rfl, hs', by cases o <;> exact hm⟩
   clear hpost hpt ih ho
   go_enter Tryz.func129, Tryz.ntmps129
   go_wp2_with fail
   generalize w.alloc (.cells #[.int .i64 0, .int .i64 0, .slice none 0 0] 34) = W1 at *
   refine (HC.out _).mono ?_
   rintro e w3 ⟨hb3, T, ta, tc, nx, rfl, hs3, hm⟩
   have hzz := HV1.out.facts.1
   obtain ⟨z1, r0, r1, r2, rf⟩ := (HV1.out.below hb3).facts
   have HB3 := tuck (bAfter HB1.out hb3)
   have HS3 : Hid (SlIn w3 (w.heap.size + 1) T.kids (.slice ta T.kids.length tc)) := tuck (hs3.mono hzz)
   have HM : Hid (PNx s T nx o) := tuck hm
   clear hb3 hs3 hm hzz
   go_wp2_with fail
   refine bodyPost_ret (v := .tuple #[.agg #[.int .i64 T.kind, .int .i64 T.num, .slice ta T.kids.length tc], .int .i64 nx]) (by simp [results, Tryz.results129, go_sem, *]) rfl (HYES.out T ta tc nx _ ?_ ?_ HM.out)
   ·exact bSet3 HB3.out (Nat.le_refl _) _ _ _ _ _ _
   ·exact (SlIn.set3 HS3.out (Nat.lt_succ_self _)).mono (Nat.le_succ _)
  by_cases h94 : s[a].toNat = 94
  ·have g35 : ((s[a].toNat : Int) == 35) = false := by rw [beq_eq_false_iff_ne]; omega
   have g42 : ((s[a].toNat : Int) == 42) = false := by rw [beq_eq_false_iff_ne]; omega
   have g78 : ((s[a].toNat : Int) == 78) = false := by rw [beq_eq_false_iff_ne]; omega
   have g48 : ((s[a].toNat : Int) == 48) = false := by rw [beq_eq_false_iff_ne]; omega
   have g43 : ((s[a].toNat : Int) == 43) = false := by rw [beq_eq_false_iff_ne]; omega
   have g33 : ((s[a].toNat : Int) == 33) = false := by rw [beq_eq_false_iff_ne]; omega
   have g94 : ((s[a].toNat : Int) == 94) = true := by rw [beq_iff_eq]; omega
   obtain ⟨o, ho⟩ : ∃ o : Option (Tm × Nat), o = (pt s d (a + 1)).map fun x => (.mk (preKind (byteAt s a)) 0 [x.1], x.2) := ⟨_, rfl⟩
   have hpt : pt s (d + 1) a = o := by rw [ho]; rw [pt, if_pos ha, byteAt_eq ha, if_neg h35, if_neg h42, if_neg h78, if_neg h48, if_pos (Or.inr (Or.inr (Or.inl h94)))]
   have HC : Hid (∀ W, Calls Tryz.prog 140 #[.string s, .int .i64 a, .int .i64 ((d + 1 : Nat) : Int)] W (PPost s W o)) := tuck fun W => by rw [ho]; exact prefix_any s hs d (by omega) (ih (by omega)) a ha W
   have HYES : Hid (∀ (T : Tm) (a' : Option Addr) (c' : Nat) (nx : Int) (w' : World), Below w.heap.size w w' → SlIn w' w.heap.size T.kids (.slice a' T.kids.length c') → PNx s T nx o → post (.returned (.tuple #[.agg #[.int .i64 T.kind, .int .i64 T.num, .slice a' T.kids.length c'], .int .i64 nx])) w') := tuck fun T a' c' nx w' hb hs' hm => by
    rw [hpost, hpt]
    exact ⟨hb, T, a', c', nx, rfl, hs', by cases o <;> exact hm⟩
   clear hpost hpt ih ho
   go_enter Tryz.func129, Tryz.ntmps129
   go_wp2_with fail
   generalize w.alloc (.cells #[.int .i64 0, .int .i64 0, .slice none 0 0] 34) = W1 at *
   refine (HC.out _).mono ?_
   rintro e w3 ⟨hb3, T, ta, tc, nx, rfl, hs3, hm⟩
   have hzz := HV1.out.facts.1
   obtain ⟨z1, r0, r1, r2, rf⟩ := (HV1.out.below hb3).facts
   have HB3 := tuck (bAfter HB1.out hb3)
   have HS3 : Hid (SlIn w3 (w.heap.size + 1) T.kids (.slice ta T.kids.length tc)) := tuck (hs3.mono hzz)
   have HM : Hid (PNx s T nx o) := tuck hm
   clear hb3 hs3 hm hzz
   go_wp2_with fail
   refine bodyPost_ret (v := .tuple #[.agg #[.int .i64 T.kind, .int .i64 T.num, .slice ta T.kids.length tc], .int .i64 nx]) (by simp [results, Tryz.results129, go_sem, *]) rfl (HYES.out T ta tc nx _ ?_ ?_ HM.out)
   ·exact bSet3 HB3.out (Nat.le_refl _) _ _ _ _ _ _
   ·exact (SlIn.set3 HS3.out (Nat.lt_succ_self _)).mono (Nat.le_succ _)
  by_cases h95 : s[a].toNat = 95
  ·have g35 : ((s[a].toNat : Int) == 35) = false := by rw [beq_eq_false_iff_ne]; omega
   have g42 : ((s[a].toNat : Int) == 42) = false := by rw [beq_eq_false_iff_ne]; omega
   have g78 : ((s[a].toNat : Int) == 78) = false := by rw [beq_eq_false_iff_ne]; omega
   have g48 : ((s[a].toNat : Int) == 48) = false := by rw [beq_eq_false_iff_ne]; omega
   have g43 : ((s[a].toNat : Int) == 43) = false := by rw [beq_eq_false_iff_ne]; omega
   have g33 : ((s[a].toNat : Int) == 33) = false := by rw [beq_eq_false_iff_ne]; omega
   have g94 : ((s[a].toNat : Int) == 94) = false := by rw [beq_eq_false_iff_ne]; omega
   have g95 : ((s[a].toNat : Int) == 95) = true := by rw [beq_iff_eq]; omega
   obtain ⟨o, ho⟩ : ∃ o : Option (Tm × Nat), o = (pt s d (a + 1)).map fun x => (.mk (preKind (byteAt s a)) 0 [x.1], x.2) := ⟨_, rfl⟩
   have hpt : pt s (d + 1) a = o := by rw [ho]; rw [pt, if_pos ha, byteAt_eq ha, if_neg h35, if_neg h42, if_neg h78, if_neg h48, if_pos (Or.inr (Or.inr (Or.inr h95)))]
   have HC : Hid (∀ W, Calls Tryz.prog 140 #[.string s, .int .i64 a, .int .i64 ((d + 1 : Nat) : Int)] W (PPost s W o)) := tuck fun W => by rw [ho]; exact prefix_any s hs d (by omega) (ih (by omega)) a ha W
   have HYES : Hid (∀ (T : Tm) (a' : Option Addr) (c' : Nat) (nx : Int) (w' : World), Below w.heap.size w w' → SlIn w' w.heap.size T.kids (.slice a' T.kids.length c') → PNx s T nx o → post (.returned (.tuple #[.agg #[.int .i64 T.kind, .int .i64 T.num, .slice a' T.kids.length c'], .int .i64 nx])) w') := tuck fun T a' c' nx w' hb hs' hm => by
    rw [hpost, hpt]
    exact ⟨hb, T, a', c', nx, rfl, hs', by cases o <;> exact hm⟩
   clear hpost hpt ih ho
   go_enter Tryz.func129, Tryz.ntmps129
   go_wp2_with fail
   generalize w.alloc (.cells #[.int .i64 0, .int .i64 0, .slice none 0 0] 34) = W1 at *
   refine (HC.out _).mono ?_
   rintro e w3 ⟨hb3, T, ta, tc, nx, rfl, hs3, hm⟩
   have hzz := HV1.out.facts.1
   obtain ⟨z1, r0, r1, r2, rf⟩ := (HV1.out.below hb3).facts
   have HB3 := tuck (bAfter HB1.out hb3)
   have HS3 : Hid (SlIn w3 (w.heap.size + 1) T.kids (.slice ta T.kids.length tc)) := tuck (hs3.mono hzz)
   have HM : Hid (PNx s T nx o) := tuck hm
   clear hb3 hs3 hm hzz
   go_wp2_with fail
   refine bodyPost_ret (v := .tuple #[.agg #[.int .i64 T.kind, .int .i64 T.num, .slice ta T.kids.length tc], .int .i64 nx]) (by simp [results, Tryz.results129, go_sem, *]) rfl (HYES.out T ta tc nx _ ?_ ?_ HM.out)
   ·exact bSet3 HB3.out (Nat.le_refl _) _ _ _ _ _ _
   ·exact (SlIn.set3 HS3.out (Nat.lt_succ_self _)).mono (Nat.le_succ _)
  by_cases h40 : s[a].toNat = 40
  ·have g35 : ((s[a].toNat : Int) == 35) = false := by rw [beq_eq_false_iff_ne]; omega
   have g42 : ((s[a].toNat : Int) == 42) = false := by rw [beq_eq_false_iff_ne]; omega
   have g78 : ((s[a].toNat : Int) == 78) = false := by rw [beq_eq_false_iff_ne]; omega
   have g48 : ((s[a].toNat : Int) == 48) = false := by rw [beq_eq_false_iff_ne]; omega
   have g43 : ((s[a].toNat : Int) == 43) = false := by rw [beq_eq_false_iff_ne]; omega
   have g33 : ((s[a].toNat : Int) == 33) = false := by rw [beq_eq_false_iff_ne]; omega
   have g94 : ((s[a].toNat : Int) == 94) = false := by rw [beq_eq_false_iff_ne]; omega
   have g95 : ((s[a].toNat : Int) == 95) = false := by rw [beq_eq_false_iff_ne]; omega
   have g40 : ((s[a].toNat : Int) == 40) = true := by rw [beq_iff_eq]; omega
   obtain ⟨o, ho⟩ : ∃ o : Option (Tm × Nat), o = ptRound s (pt s d) (a + 1) := ⟨_, rfl⟩
   have hpt : pt s (d + 1) a = o := by rw [pt, if_pos ha, byteAt_eq ha, if_neg h35, if_neg h42, if_neg h78, if_neg h48, if_neg (by omega), if_pos h40, ho]
   have HC : Hid (∀ W, Calls Tryz.prog 141 #[.string s, .int .i64 ((a : Int) + 1), .int .i64 d] W (PPost s W o)) := tuck fun W => by
    have := round_any s hs d (ih (by omega)) (a + 1) W
    rw [ho]
    rwa [show ((a + 1 : Nat) : Int) = (a : Int) + 1 by omega] at this
   have HYES : Hid (∀ (T : Tm) (a' : Option Addr) (c' : Nat) (nx : Int) (w' : World), Below w.heap.size w w' → SlIn w' w.heap.size T.kids (.slice a' T.kids.length c') → PNx s T nx o → post (.returned (.tuple #[.agg #[.int .i64 T.kind, .int .i64 T.num, .slice a' T.kids.length c'], .int .i64 nx])) w') := tuck fun T a' c' nx w' hb hs' hm => by
    rw [hpost, hpt]
    exact ⟨hb, T, a', c', nx, rfl, hs', by cases o <;> exact hm⟩
   clear hpost hpt ih ho
   go_enter Tryz.func129, Tryz.ntmps129
   go_wp2_with fail
   generalize w.alloc (.cells #[.int .i64 0, .int .i64 0, .slice none 0 0] 34) = W1 at *
   refine (HC.out _).mono ?_
   rintro e w3 ⟨hb3, T, ta, tc, nx, rfl, hs3, hm⟩
   have hzz := HV1.out.facts.1
   obtain ⟨z1, r0, r1, r2, rf⟩ := (HV1.out.below hb3).facts
   have HB3 := tuck (bAfter HB1.out hb3)
   have HS3 : Hid (SlIn w3 (w.heap.size + 1) T.kids (.slice ta T.kids.length tc)) := tuck (hs3.mono hzz)
   have HM : Hid (PNx s T nx o) := tuck hm
   clear hb3 hs3 hm hzz
   go_wp2_with fail
   refine bodyPost_ret (v := .tuple #[.agg #[.int .i64 T.kind, .int .i64 T.num, .slice ta T.kids.length tc], .int .i64 nx]) (by simp [results, Tryz.results129, go_sem, *]) rfl (HYES.out T ta tc nx _ ?_ ?_ HM.out)
   ·exact bSet3 HB3.out (Nat.le_refl _) _ _ _ _ _ _
   ·exact (SlIn.set3 HS3.out (Nat.lt_succ_self _)).mono (Nat.le_succ _)
  by_cases h91 : s[a].toNat = 91
  ·have g35 : ((s[a].toNat : Int) == 35) = false := by rw [beq_eq_false_iff_ne]; omega
   have g42 : ((s[a].toNat : Int) == 42) = false := by rw [beq_eq_false_iff_ne]; omega
   have g78 : ((s[a].toNat : Int) == 78) = false := by rw [beq_eq_false_iff_ne]; omega
   have g48 : ((s[a].toNat : Int) == 48) = false := by rw [beq_eq_false_iff_ne]; omega
   have g43 : ((s[a].toNat : Int) == 43) = false := by rw [beq_eq_false_iff_ne]; omega
   have g33 : ((s[a].toNat : Int) == 33) = false := by rw [beq_eq_false_iff_ne]; omega
   have g94 : ((s[a].toNat : Int) == 94) = false := by rw [beq_eq_false_iff_ne]; omega
   have g95 : ((s[a].toNat : Int) == 95) = false := by rw [beq_eq_false_iff_ne]; omega
   have g40 : ((s[a].toNat : Int) == 40) = false := by rw [beq_eq_false_iff_ne]; omega
   have g91 : ((s[a].toNat : Int) == 91) = true := by rw [beq_iff_eq]; omega
   have hpt0 : pt s (d + 1) a = ptLam s (pt s d) (a + 1) := by rw [pt, if_pos ha, byteAt_eq ha, if_neg h35, if_neg h42, if_neg h78, if_neg h48, if_neg (by omega), if_neg h40, if_pos h91]
   have HR1 : Hid (∀ W, Calls Tryz.prog 129 #[.string s, .int .i64 ((a : Int) + 1), .int .i64 d] W (PPost s W (pt s d (a + 1)))) := tuck fun W => by have := ih (by omega) (a + 1) W; rwa [show ((a + 1 : Nat) : Int) = (a : Int) + 1 by omega] at this
   unfold ptLam at hpt0
   cases hp : pt s d (a + 1) with
   | none =>
    rw [hp] at HR1 hpt0
    have HNO := tuck (HNO0.out hpt0)
    clear hp hpt0 HNO0 hpost ih
    go_enter Tryz.func129, Tryz.ntmps129
    go_wp2_with fail
    generalize w.alloc (.cells #[.int .i64 0, .int .i64 0, .slice none 0 0] 34) = W1 at *
    refine (HR1.out _).mono ?_
    rintro e w3 ⟨hb3, T, ta, tc, nx, rfl, hs3, hm⟩
    have hbx := below1 w3 (.cells #[.int .i64 T.kind, .int .i64 T.num, .slice ta T.kids.length tc] 34)
    have HV3 := tuck ((HV1.out.below hb3).below hbx)
    have HVT := tuck (VarAt.new w3 T.kind T.num (.slice ta T.kids.length tc))
    have HB3 := tuck (bAfter HB1.out (bAfter hb3 hbx))
    have HZ1 : Hid (w.heap.size + 1 ≤ W1.heap.size) := tuck HV1.out.facts.1
    have HS3 := tuck (hs3.below hbx)
    obtain ⟨z1, r0, r1, r2, rf⟩ := HV3.out.facts
    clear hb3 hs3 hbx HR1
    obtain rfl : nx = -1 := hm
    go_wp2_with fail
    refine bodyPost_ret (v := .tuple #[.agg #[.int .i64 0, .int .i64 0, .slice none 0 0], .int .i64 (-1)]) (by simp [results, Tryz.results129, go_sem, *]) rfl (HNO.out _ ?_)
    exact bSet3 HB3.out (Nat.le_refl _) _ _ _ _ _ _
   | some x =>
    obtain ⟨X, n⟩ := x
    rw [hp] at HR1 hpt0
    dsimp only at hpt0
    by_cases hn : n < s.size
    ·by_cases h93 : s[n].toNat = 93
     ·rw [if_pos ⟨hn, by rw [byteAt_eq hn]; exact h93⟩] at hpt0
      have k4 : ((s[n].toNat : Int) != 93) = false := by rw [bne_eq_false_iff_eq]; omega
      have HR2 : Hid (∀ W, Calls Tryz.prog 129 #[.string s, .int .i64 ((n : Int) + 1), .int .i64 d] W (PPost s W (pt s d (n + 1)))) := tuck fun W => by have := ih (by omega) (n + 1) W; rwa [show ((n + 1 : Nat) : Int) = (n : Int) + 1 by omega] at this
      generalize pt s d (n + 1) = o2 at HR2 hpt0
      obtain ⟨o, ho⟩ : ∃ o : Option (Tm × Nat), o = o2.map fun y => (.mk 4 0 [X, y.1], y.2) := ⟨_, rfl⟩
      have hpt : pt s (d + 1) a = o := by rw [ho]; exact hpt0
      have HYES : Hid (∀ (T : Tm) (a' : Option Addr) (c' : Nat) (nx : Int) (w' : World), Below w.heap.size w w' → SlIn w' w.heap.size T.kids (.slice a' T.kids.length c') → PNx s T nx o → post (.returned (.tuple #[.agg #[.int .i64 T.kind, .int .i64 T.num, .slice a' T.kids.length c'], .int .i64 nx])) w') := tuck fun T a' c' nx w' hb hs' hm => by
       rw [hpost, hpt]
       exact ⟨hb, T, a', c', nx, rfl, hs', by cases o <;> exact hm⟩
      subst ho
      clear hp hpt0 hpt HNO0 hpost ih h93
      go_enter Tryz.func129, Tryz.ntmps129
      go_wp2_with fail
      generalize w.alloc (.cells #[.int .i64 0, .int .i64 0, .slice none 0 0] 34) = W1 at *
      refine (HR1.out _).mono ?_
      rintro e w3 ⟨hb3, T, ta, tc, nx, rfl, hs3, hm⟩
      have hbx := below1 w3 (.cells #[.int .i64 T.kind, .int .i64 T.num, .slice ta T.kids.length tc] 34)
      have HV3 := tuck ((HV1.out.below hb3).below hbx)
      have HVT := tuck (VarAt.new w3 T.kind T.num (.slice ta T.kids.length tc))
      have HB3 := tuck (bAfter HB1.out (bAfter hb3 hbx))
      have HZ1 : Hid (w.heap.size + 1 ≤ W1.heap.size) := tuck HV1.out.facts.1
      have HS3 := tuck (hs3.below hbx)
      obtain ⟨z1, r0, r1, r2, rf⟩ := HV3.out.facts
      clear hb3 hs3 hbx HR1
      obtain ⟨rfl, rfl, hle⟩ := hm
      have hg1 : decide ((n : Int) < 0) = false := decide_eq_false (by omega)
      have hg2 : decide ((s.size : Int) ≤ (n : Int)) = false := decide_eq_false (by omega)
      have hg4 : (n : Int) < (s.size : Int) := by omega
      have HZ3 : Hid (w.heap.size + 1 ≤ (w3.alloc (.cells #[.int .i64 T.kind, .int .i64 T.num, .slice ta T.kids.length tc] 34)).heap.size) := tuck z1
      go_wp2_with fail
      refine (HR2.out _).mono ?_
      rintro e w5 ⟨hb5, U, ua, uc, ny, rfl, hs5, hm2⟩
      have hby := below1 w5 (.cells #[.int .i64 U.kind, .int .i64 U.num, .slice ua U.kids.length uc] 34)
      have HV5 := tuck ((HV3.out.below hb5).below hby)
      have HVT5 := tuck ((HVT.out.below hb5).below hby)
      have HVU5 := tuck (VarAt.new w5 U.kind U.num (.slice ua U.kids.length uc))
      have HB5 := tuck (bAfter HB3.out (bAfter hb5 hby))
      have HST := tuck ((HS3.out.below hb5).below hby)
      have HSU := tuck (hs5.below hby)
      have HM2 := tuck hm2
      clear z1 r0 r1 r2 rf
      obtain ⟨z1, r0, r1, r2, rf⟩ := HV5.out.facts
      clear hb5 hby hs5 hm2
      have hbr := below1 (w5.alloc (.cells #[.int .i64 U.kind, .int .i64 U.num, .slice ua U.kids.length uc] 34)) (.cells #[.int .i64 T.kind, .int .i64 T.num, .slice ta T.kids.length tc, .int .i64 U.kind, .int .i64 U.num, .slice ua U.kids.length uc] 34)
      have HV6 := tuck (HV5.out.below hbr)
      have HB6 := tuck (bAfter HB5.out hbr)
      have hzt : w.heap.size + 1 ≤ W1.heap.size := HZ1.out
      have hzu := HZ3.out
      have HNODE : Hid (Calls Tryz.prog 86 #[.int .i64 4, .slice (some ⟨w5.heap.size + 1, 0, none⟩) 2 2] ((w5.alloc (.cells #[.int .i64 U.kind, .int .i64 U.num, .slice ua U.kids.length uc] 34)).alloc (.cells #[.int .i64 T.kind, .int .i64 T.num, .slice ta T.kids.length tc, .int .i64 U.kind, .int .i64 U.num, .slice ua U.kids.length uc] 34)) fun e w' => Below ((w5.alloc (.cells #[.int .i64 U.kind, .int .i64 U.num, .slice ua U.kids.length uc] 34)).alloc (.cells #[.int .i64 T.kind, .int .i64 T.num, .slice ta T.kids.length tc, .int .i64 U.kind, .int .i64 U.num, .slice ua U.kids.length uc] 34)).heap.size ((w5.alloc (.cells #[.int .i64 U.kind, .int .i64 U.num, .slice ua U.kids.length uc] 34)).alloc (.cells #[.int .i64 T.kind, .int .i64 T.num, .slice ta T.kids.length tc, .int .i64 U.kind, .int .i64 U.num, .slice ua U.kids.length uc] 34)) w' ∧ ∃ (a : Option Addr) (c : Nat), e = .returned (.agg #[.int .i64 4, .int .i64 0, .slice a 2 c]) ∧ SlX w' (fun i => i < w.heap.size + 1) [T, U] (.slice a 2 c)) := tuck (by
       have h := nodeX_any 4 [(T, .slice ta T.kids.length tc), (U, .slice ua U.kids.length uc)] ((w5.alloc (.cells #[.int .i64 U.kind, .int .i64 U.num, .slice ua U.kids.length uc] 34)).alloc (.cells #[.int .i64 T.kind, .int .i64 T.num, .slice ta T.kids.length tc, .int .i64 U.kind, .int .i64 U.num, .slice ua U.kids.length uc] 34)) (w5.alloc (.cells #[.int .i64 U.kind, .int .i64 U.num, .slice ua U.kids.length uc] 34)).heap.size 2 34 #[.int .i64 T.kind, .int .i64 T.num, .slice ta T.kids.length tc, .int .i64 U.kind, .int .i64 U.num, .slice ua U.kids.length uc] (fun i => i < w.heap.size + 1) (fun i hi => by have h1 := HB6.out.size; have h2 := HV6.out.facts.1; omega) (by simp) (by simp) (heap_new _ _) (by simp [cellsL]) (fun x hx => by
        simp only [List.mem_cons, List.not_mem_nil, or_false] at hx
        rcases hx with rfl | rfl
        ·exact SlX.of_sl (HST.out.below hbr) (fun i hi => by omega)
        ·exact SlX.of_sl (HSU.out.below hbr) (fun i hi => by omega))
       rw [show (w5.alloc (.cells #[.int .i64 U.kind, .int .i64 U.num, .slice ua U.kids.length uc] 34)).heap.size = w5.heap.size + 1 by simp] at h
       exact h)
      obtain ⟨zt, t0, t1, t2, -⟩ := HVT5.out.facts
      obtain ⟨zu, u0, u1, u2, -⟩ := HVU5.out.facts
      clear hbr hzt hzu
      go_wp2_with fail
      refine HNODE.out.mono ?_
      rintro e w7 ⟨hb7, xa, xc, rfl, hs7⟩
      clear z1 r0 r1 r2 rf
      obtain ⟨z1, r0, r1, r2, rf⟩ := (HV6.out.below hb7).facts
      have HB7 := tuck (bAfter HB6.out hb7)
      have HS7 := tuck (SlX.from hs7)
      clear hb7 hs7 HNODE
      go_wp2_with fail
      refine bodyPost_ret (v := .tuple #[.agg #[.int .i64 4, .int .i64 0, .slice xa 2 xc], .int .i64 ny]) (by simp [results, Tryz.results129, go_sem, *]) rfl (HYES.out (.mk 4 0 [T, U]) xa xc ny _ ?_ ?_ ?_)
      ·exact bSet3 HB7.out (Nat.le_refl _) _ _ _ _ _ _
      ·exact (SlIn.set3 HS7.out (Nat.lt_succ_self _)).mono (Nat.le_succ _)
      ·have hm3 : PNx s U ny o2 := by have := HM2.out; cases o2 <;> exact this
       cases o2 with
       | none => exact hm3
       | some y => exact ⟨by rw [hm3.1], hm3.2⟩
     ·rw [if_neg (fun h => h93 (by have := h.2; rwa [byteAt_eq hn] at this))] at hpt0
      have k4 : ((s[n].toNat : Int) != 93) = true := by rw [bne_iff_ne]; omega
      have HNO := tuck (HNO0.out hpt0)
      clear hp hpt0 HNO0 hpost ih h93
      go_enter Tryz.func129, Tryz.ntmps129
      go_wp2_with fail
      generalize w.alloc (.cells #[.int .i64 0, .int .i64 0, .slice none 0 0] 34) = W1 at *
      refine (HR1.out _).mono ?_
      rintro e w3 ⟨hb3, T, ta, tc, nx, rfl, hs3, hm⟩
      have hbx := below1 w3 (.cells #[.int .i64 T.kind, .int .i64 T.num, .slice ta T.kids.length tc] 34)
      have HV3 := tuck ((HV1.out.below hb3).below hbx)
      have HVT := tuck (VarAt.new w3 T.kind T.num (.slice ta T.kids.length tc))
      have HB3 := tuck (bAfter HB1.out (bAfter hb3 hbx))
      have HZ1 : Hid (w.heap.size + 1 ≤ W1.heap.size) := tuck HV1.out.facts.1
      have HS3 := tuck (hs3.below hbx)
      obtain ⟨z1, r0, r1, r2, rf⟩ := HV3.out.facts
      clear hb3 hs3 hbx HR1
      obtain ⟨rfl, rfl, hle⟩ := hm
      have hg1 : decide ((n : Int) < 0) = false := decide_eq_false (by omega)
      have hg2 : decide ((s.size : Int) ≤ (n : Int)) = false := decide_eq_false (by omega)
      have hg4 : (n : Int) < (s.size : Int) := by omega
      go_wp2_with fail
      refine bodyPost_ret (v := .tuple #[.agg #[.int .i64 0, .int .i64 0, .slice none 0 0], .int .i64 (-1)]) (by simp [results, Tryz.results129, go_sem, *]) rfl (HNO.out _ ?_)
      exact bSet3 HB3.out (Nat.le_refl _) _ _ _ _ _ _
    ·rw [if_neg (fun h => hn h.1)] at hpt0
     have HNO := tuck (HNO0.out hpt0)
     clear hp hpt0 HNO0 hpost ih
     go_enter Tryz.func129, Tryz.ntmps129
     go_wp2_with fail
     generalize w.alloc (.cells #[.int .i64 0, .int .i64 0, .slice none 0 0] 34) = W1 at *
     refine (HR1.out _).mono ?_
     rintro e w3 ⟨hb3, T, ta, tc, nx, rfl, hs3, hm⟩
     have hbx := below1 w3 (.cells #[.int .i64 T.kind, .int .i64 T.num, .slice ta T.kids.length tc] 34)
     have HV3 := tuck ((HV1.out.below hb3).below hbx)
     have HVT := tuck (VarAt.new w3 T.kind T.num (.slice ta T.kids.length tc))
     have HB3 := tuck (bAfter HB1.out (bAfter hb3 hbx))
     have HZ1 : Hid (w.heap.size + 1 ≤ W1.heap.size) := tuck HV1.out.facts.1
     have HS3 := tuck (hs3.below hbx)
     obtain ⟨z1, r0, r1, r2, rf⟩ := HV3.out.facts
     clear hb3 hs3 hbx HR1
     obtain ⟨rfl, rfl, hle⟩ := hm
     have hg1 : decide ((n : Int) < 0) = false := decide_eq_false (by omega)
     have hg2 : decide ((s.size : Int) ≤ (n : Int)) = true := decide_eq_true (by omega)
     go_wp2_with fail
     refine bodyPost_ret (v := .tuple #[.agg #[.int .i64 0, .int .i64 0, .slice none 0 0], .int .i64 (-1)]) (by simp [results, Tryz.results129, go_sem, *]) rfl (HNO.out _ ?_)
     exact bSet3 HB3.out (Nat.le_refl _) _ _ _ _ _ _
  have g35 : ((s[a].toNat : Int) == 35) = false := by rw [beq_eq_false_iff_ne]; omega
  have g42 : ((s[a].toNat : Int) == 42) = false := by rw [beq_eq_false_iff_ne]; omega
  have g78 : ((s[a].toNat : Int) == 78) = false := by rw [beq_eq_false_iff_ne]; omega
  have g48 : ((s[a].toNat : Int) == 48) = false := by rw [beq_eq_false_iff_ne]; omega
  have g43 : ((s[a].toNat : Int) == 43) = false := by rw [beq_eq_false_iff_ne]; omega
  have g33 : ((s[a].toNat : Int) == 33) = false := by rw [beq_eq_false_iff_ne]; omega
  have g94 : ((s[a].toNat : Int) == 94) = false := by rw [beq_eq_false_iff_ne]; omega
  have g95 : ((s[a].toNat : Int) == 95) = false := by rw [beq_eq_false_iff_ne]; omega
  have g40 : ((s[a].toNat : Int) == 40) = false := by rw [beq_eq_false_iff_ne]; omega
  have g91 : ((s[a].toNat : Int) == 91) = false := by rw [beq_eq_false_iff_ne]; omega
  obtain ⟨o, ho⟩ : ∃ o : Option (Tm × Nat), o = ptBlock s (pt s d) a := ⟨_, rfl⟩
  have hpt : pt s (d + 1) a = o := by rw [pt, if_pos ha, byteAt_eq ha, if_neg h35, if_neg h42, if_neg h78, if_neg h48, if_neg (by omega), if_neg h40, if_neg h91, ho]
  have HC : Hid (∀ W, Calls Tryz.prog 142 #[.string s, .int .i64 a, .int .i64 ((d + 1 : Nat) : Int)] W (PPost s W o)) := tuck fun W => by rw [ho]; exact block_any s hs d (by omega) (ih (by omega)) a ha W
  have HYES : Hid (∀ (T : Tm) (a' : Option Addr) (c' : Nat) (nx : Int) (w' : World), Below w.heap.size w w' → SlIn w' w.heap.size T.kids (.slice a' T.kids.length c') → PNx s T nx o → post (.returned (.tuple #[.agg #[.int .i64 T.kind, .int .i64 T.num, .slice a' T.kids.length c'], .int .i64 nx])) w') := tuck fun T a' c' nx w' hb hs' hm => by
   rw [hpost, hpt]
   exact ⟨hb, T, a', c', nx, rfl, hs', by cases o <;> exact hm⟩
  clear hpost hpt ih ho
  go_enter Tryz.func129, Tryz.ntmps129
  go_wp2_with fail
  generalize w.alloc (.cells #[.int .i64 0, .int .i64 0, .slice none 0 0] 34) = W1 at *
  refine (HC.out _).mono ?_
  rintro e w3 ⟨hb3, T, ta, tc, nx, rfl, hs3, hm⟩
  have hzz := HV1.out.facts.1
  obtain ⟨z1, r0, r1, r2, rf⟩ := (HV1.out.below hb3).facts
  have HB3 := tuck (bAfter HB1.out hb3)
  have HS3 : Hid (SlIn w3 (w.heap.size + 1) T.kids (.slice ta T.kids.length tc)) := tuck (hs3.mono hzz)
  have HM : Hid (PNx s T nx o) := tuck hm
  clear hb3 hs3 hm hzz
  go_wp2_with fail
  refine bodyPost_ret (v := .tuple #[.agg #[.int .i64 T.kind, .int .i64 T.num, .slice ta T.kids.length tc], .int .i64 nx]) (by simp [results, Tryz.results129, go_sem, *]) rfl (HYES.out T ta tc nx _ ?_ ?_ HM.out)
  ·exact bSet3 HB3.out (Nat.le_refl _) _ _ _ _ _ _
  ·exact (SlIn.set3 HS3.out (Nat.lt_succ_self _)).mono (Nat.le_succ _)
 ·have hag : decide ((s.size : Int) ≤ (a : Int)) = true := decide_eq_true (by omega)
  have HNO := tuck (HNO0.out (by rw [pt, if_neg ha]))
  clear hpost HNO0 ih
  go_enter Tryz.func129, Tryz.ntmps129
  go_wp2_with fail
  refine bodyPost_ret (v := .tuple #[.agg #[.int .i64 0, .int .i64 0, .slice none 0 0], .int .i64 (-1)]) (by simp [results, Tryz.results129, go_sem, *]) rfl (HNO.out _ ?_)
  first | exact HB1.out | exact bSet3 HB1.out (Nat.le_refl _) _ _ _ _ _ _
set_option maxRecDepth 100000 in
set_option maxHeartbeats 4000000 in
theorem parse_ok (s : ByteArray) (hs : s.size ≤ 1152921504606846976) : ∀ d, d ≤ 100 → ParseOk s d
 | 0, _ => fun a w => by
  obtain ⟨post, hpost⟩ : ∃ post : Ending → World → Prop, post = PPost s w (pt s 0 a) := ⟨_, rfl⟩
  rw [← hpost]
  have HNO : Hid (∀ w', Below w.heap.size w w' → post (.returned (.tuple #[.agg #[.int .i64 0, .int .i64 0, .slice none 0 0], .int .i64 (-1)])) w') := tuck fun w' hb => by rw [hpost, pt]; exact PPost.zero hb
  have HB1 := tuck (below1 w (.cells #[.int .i64 0, .int .i64 0, .slice none 0 0] 34))
  clear hpost
  go_enter Tryz.func129, Tryz.ntmps129
  go_wp2_with fail
  refine bodyPost_ret (v := .tuple #[.agg #[.int .i64 0, .int .i64 0, .slice none 0 0], .int .i64 (-1)]) (by simp [results, Tryz.results129, go_sem, *]) rfl (HNO.out _ ?_)
  first | exact HB1.out | exact bSet3 HB1.out (Nat.le_refl _) _ _ _ _ _ _
 | d + 1, hd => fun a w => parse_succ s hs d hd (fun h => parse_ok s hs d h) a w
end Go.Proofs.YtpddjebdncaceaaGreat
