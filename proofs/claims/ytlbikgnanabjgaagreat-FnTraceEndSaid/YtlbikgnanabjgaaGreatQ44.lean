/-
  Px.
-/
import Derived.Test.YtlbikgnanabjgaaGreatQ43
namespace Go.Proofs.YtlbikgnanabjgaaGreat
open Go.RowKit
theorem ptNum_leW {s : ByteArray} {a d : Nat} {x : Nat × Nat} (ha : a ≤ s.size) (h : ptNum s a d = some x) : x.2 ≤ s.size := by
 unfold ptNum at h
 split at h
 ·simp only [Option.some.injEq] at h
  rw [← h]
  exact digRun_in s d a ha
 ·cases h
def NW (s : ByteArray) (W : World) (e : Ending) (w' : World) : Prop := w' = W ∧ ∃ n nx : Int, e = .returned (.tuple #[.int .i64 n, .int .i64 nx]) ∧ -1 ≤ nx ∧ nx ≤ s.size
set_option maxRecDepth 100000 in
set_option maxHeartbeats 16000000 in
theorem parseW_succ (s : ByteArray) (hs : s.size ≤ 1152921504606846976) (d : Nat) (hd : d + 1 ≤ 100) (ih : WParse s d) (a0 : Int) (w : World) (h0 : 0 ≤ a0) (h1 : a0 ≤ s.size) : Calls Tryz.prog 61 #[.string s, .int .i64 a0, .int .i64 ((d + 1 : Nat) : Int)] w (PW s w) := by
 obtain ⟨a, rfl⟩ : ∃ a : Nat, a0 = a := ⟨a0.toNat, by omega⟩
 have HP : Hid (∀ (T : Tm) (nx : Int) (w' : World) (a' : Option Addr) (c' : Nat), Below w.heap.size w w' → SlIn w' w.heap.size T.kids (.slice a' T.kids.length c') → -1 ≤ nx ∧ nx ≤ s.size → PW s w (.returned (.tuple #[.agg #[.int .i64 T.kind, .int .i64 T.num, .slice a' T.kids.length c'], .int .i64 nx])) w') := tuck fun T nx w' a' c' hb hs' hm => ⟨hb, T, a', c', nx, rfl, hs', hm⟩
 generalize PW s w = post at *
 have HB1 := tuck (below1 w (.cells #[.int .i64 0, .int .i64 0, .slice none 0 0] 25))
 have HV1 := tuck (VarAt.new w 0 0 (.slice none 0 0))
 have hdd : ((d + 1 : Nat) : Int) - 1 = (d : Int) := by omega
 have hds : (d : Int) + 1 - 1 = (d : Int) := by omega
 have hd1 : decide (((d + 1 : Nat) : Int) < 1) = false := decide_eq_false (by omega)
 have ha0 : decide ((a : Int) < 0) = false := decide_eq_false (by omega)
 by_cases ha : a < s.size
 ·have hai : (a : Int) < (s.size : Int) := by omega
  have hag : decide ((s.size : Int) ≤ (a : Int)) = false := decide_eq_false (by omega)
  have HPRE := tuck (fun W => prefixW s hs d (by omega) ih a ha W)
  have HBLK := tuck (fun W => blockW s hs d (by omega) ih a ha W)
  have HRND := tuck (fun W => roundW s hs d ih ((a : Int) + 1) (by omega) (by omega) W)
  have HR1 : Hid (∀ W, Calls Tryz.prog 61 #[.string s, .int .i64 ((a : Int) + 1), .int .i64 d] W (PW s W)) := tuck fun W => ih _ W (by omega) (by omega)
  have HR2 : Hid (∀ (n : Nat) W, n < s.size → Calls Tryz.prog 61 #[.string s, .int .i64 ((n : Int) + 1), .int .i64 d] W (PW s W)) := tuck fun n W h => ih _ W (by omega) (by omega)
  have HN2 : Hid (∀ W, Calls Tryz.prog 70 #[.string s, .int .i64 ((a : Int) + 1), .int .i64 2] W (NW s W)) := tuck fun W => by
   have h := lnumber_any s (a + 1) 2 (by omega) hs (by decide) W
   rw [show ((a + 1 : Nat) : Int) = (a : Int) + 1 by omega] at h
   refine h.mono ?_
   rintro e w' ⟨rfl, rfl⟩
   cases hp : ptNum s (a + 1) 2 with
   | none => exact ⟨rfl, 0, -1, rfl, by omega, by omega⟩
   | some x => exact ⟨rfl, x.1, x.2, rfl, by omega, by have := ptNum_leW (by omega) hp; omega⟩
  have HN1 : Hid (∀ W, Calls Tryz.prog 70 #[.string s, .int .i64 ((a : Int) + 1), .int .i64 1] W (NW s W)) := tuck fun W => by
   have h := lnumber_any s (a + 1) 1 (by omega) hs (by decide) W
   rw [show ((a + 1 : Nat) : Int) = (a : Int) + 1 by omega] at h
   refine h.mono ?_
   rintro e w' ⟨rfl, rfl⟩
   cases hp : ptNum s (a + 1) 1 with
   | none => exact ⟨rfl, 0, -1, rfl, by omega, by omega⟩
   | some x => exact ⟨rfl, x.1, x.2, rfl, by omega, by have := ptNum_leW (by omega) hp; omega⟩
  clear ih h0 h1
  by_cases h35 : s[a].toNat = 35
  ·have g35 : ((s[a].toNat : Int) == 35) = true := by rw [beq_iff_eq]; omega
   go_enter Tryz.func61, Tryz.ntmps61
   go_wp2_with fail
   generalize w.alloc (.cells #[.int .i64 0, .int .i64 0, .slice none 0 0] 25) = W1 at *
   refine (HN2.out _).mono ?_
   rintro e w2 ⟨rfl, n1, nx1, rfl, hn⟩
   go_wp2_with fail
   refine (leaf_any 1 _ _).mono ?_
   rintro e w3 ⟨rfl, hb3⟩
   obtain ⟨z1, r0, r1, r2, rf⟩ := (HV1.out.below hb3).facts
   have HB3 := tuck (bAfter HB1.out hb3)
   clear hb3
   go_wp2_with fail
   refine bodyPost_ret (v := .tuple #[.agg #[.int .i64 1, .int .i64 n1, .slice none 0 0], .int .i64 nx1]) ?_ rfl (HP.out (.mk 1 n1 []) nx1 _ none 0 (bSet3 HB3.out (Nat.le_refl _) _ _ _ _ _ _) (SlIn.nil _ _ _ _) hn)
   simp [results, Tryz.results61, go_sem, *]
  have g35 : ((s[a].toNat : Int) == 35) = false := by rw [beq_eq_false_iff_ne]; omega
  by_cases h42 : s[a].toNat = 42
  ·have g42 : ((s[a].toNat : Int) == 42) = true := by rw [beq_iff_eq]; omega
   go_enter Tryz.func61, Tryz.ntmps61
   go_wp2_with fail
   generalize w.alloc (.cells #[.int .i64 0, .int .i64 0, .slice none 0 0] 25) = W1 at *
   refine (HN1.out _).mono ?_
   rintro e w2 ⟨rfl, n1, nx1, rfl, hn⟩
   go_wp2_with fail
   refine (leaf_any 2 _ _).mono ?_
   rintro e w3 ⟨rfl, hb3⟩
   obtain ⟨z1, r0, r1, r2, rf⟩ := (HV1.out.below hb3).facts
   have HB3 := tuck (bAfter HB1.out hb3)
   clear hb3
   go_wp2_with fail
   refine bodyPost_ret (v := .tuple #[.agg #[.int .i64 2, .int .i64 n1, .slice none 0 0], .int .i64 nx1]) ?_ rfl (HP.out (.mk 2 n1 []) nx1 _ none 0 (bSet3 HB3.out (Nat.le_refl _) _ _ _ _ _ _) (SlIn.nil _ _ _ _) hn)
   simp [results, Tryz.results61, go_sem, *]
  have g42 : ((s[a].toNat : Int) == 42) = false := by rw [beq_eq_false_iff_ne]; omega
  by_cases h78 : s[a].toNat = 78
  ·have g78 : ((s[a].toNat : Int) == 78) = true := by rw [beq_iff_eq]; omega
   go_enter Tryz.func61, Tryz.ntmps61
   go_wp2_with fail
   generalize w.alloc (.cells #[.int .i64 0, .int .i64 0, .slice none 0 0] 25) = W1 at *
   refine (leaf_any 6 _ _).mono ?_
   rintro e w3 ⟨rfl, hb3⟩
   obtain ⟨z1, r0, r1, r2, rf⟩ := (HV1.out.below hb3).facts
   have HB3 := tuck (bAfter HB1.out hb3)
   clear hb3
   go_wp2_with fail
   refine bodyPost_ret (v := .tuple #[.agg #[.int .i64 6, .int .i64 0, .slice none 0 0], .int .i64 ((a : Int) + 1)]) ?_ rfl (HP.out (.mk 6 0 []) ((a : Int) + 1) _ none 0 (bSet3 HB3.out (Nat.le_refl _) _ _ _ _ _ _) (SlIn.nil _ _ _ _) (by omega))
   simp [results, Tryz.results61, go_sem, *]
  have g78 : ((s[a].toNat : Int) == 78) = false := by rw [beq_eq_false_iff_ne]; omega
  by_cases h48 : s[a].toNat = 48
  ·have g48 : ((s[a].toNat : Int) == 48) = true := by rw [beq_iff_eq]; omega
   go_enter Tryz.func61, Tryz.ntmps61
   go_wp2_with fail
   generalize w.alloc (.cells #[.int .i64 0, .int .i64 0, .slice none 0 0] 25) = W1 at *
   refine (leaf_any 7 _ _).mono ?_
   rintro e w3 ⟨rfl, hb3⟩
   obtain ⟨z1, r0, r1, r2, rf⟩ := (HV1.out.below hb3).facts
   have HB3 := tuck (bAfter HB1.out hb3)
   clear hb3
   go_wp2_with fail
   refine bodyPost_ret (v := .tuple #[.agg #[.int .i64 7, .int .i64 0, .slice none 0 0], .int .i64 ((a : Int) + 1)]) ?_ rfl (HP.out (.mk 7 0 []) ((a : Int) + 1) _ none 0 (bSet3 HB3.out (Nat.le_refl _) _ _ _ _ _ _) (SlIn.nil _ _ _ _) (by omega))
   simp [results, Tryz.results61, go_sem, *]
  have g48 : ((s[a].toNat : Int) == 48) = false := by rw [beq_eq_false_iff_ne]; omega
  by_cases h43 : s[a].toNat = 43
  ·have g43 : ((s[a].toNat : Int) == 43) = true := by rw [beq_iff_eq]; omega
   go_enter Tryz.func61, Tryz.ntmps61
   go_wp2_with fail
   generalize w.alloc (.cells #[.int .i64 0, .int .i64 0, .slice none 0 0] 25) = W1 at *
   refine (HPRE.out _).mono ?_
   rintro e w3 ⟨hb3, T, ta, tc, nx, rfl, hs3, hm⟩
   have hzz := HV1.out.facts.1
   obtain ⟨z1, r0, r1, r2, rf⟩ := (HV1.out.below hb3).facts
   have HB3 := tuck (bAfter HB1.out hb3)
   have HS3 : Hid (SlIn w3 (w.heap.size + 1) T.kids (.slice ta T.kids.length tc)) := tuck (hs3.mono hzz)
   have HM := tuck hm
   clear hb3 hs3 hm hzz
   go_wp2_with fail
   refine bodyPost_ret (v := .tuple #[.agg #[.int .i64 T.kind, .int .i64 T.num, .slice ta T.kids.length tc], .int .i64 nx]) ?_ rfl (HP.out T nx _ ta tc (bSet3 HB3.out (Nat.le_refl _) _ _ _ _ _ _) ((SlIn.set3 HS3.out (Nat.lt_succ_self _)).mono (Nat.le_succ _)) HM.out)
   simp [results, Tryz.results61, go_sem, *]
  have g43 : ((s[a].toNat : Int) == 43) = false := by rw [beq_eq_false_iff_ne]; omega
  by_cases h33 : s[a].toNat = 33
  ·have g33 : ((s[a].toNat : Int) == 33) = true := by rw [beq_iff_eq]; omega
   go_enter Tryz.func61, Tryz.ntmps61
   go_wp2_with fail
   generalize w.alloc (.cells #[.int .i64 0, .int .i64 0, .slice none 0 0] 25) = W1 at *
   refine (HPRE.out _).mono ?_
   rintro e w3 ⟨hb3, T, ta, tc, nx, rfl, hs3, hm⟩
   have hzz := HV1.out.facts.1
   obtain ⟨z1, r0, r1, r2, rf⟩ := (HV1.out.below hb3).facts
   have HB3 := tuck (bAfter HB1.out hb3)
   have HS3 : Hid (SlIn w3 (w.heap.size + 1) T.kids (.slice ta T.kids.length tc)) := tuck (hs3.mono hzz)
   have HM := tuck hm
   clear hb3 hs3 hm hzz
   go_wp2_with fail
   refine bodyPost_ret (v := .tuple #[.agg #[.int .i64 T.kind, .int .i64 T.num, .slice ta T.kids.length tc], .int .i64 nx]) ?_ rfl (HP.out T nx _ ta tc (bSet3 HB3.out (Nat.le_refl _) _ _ _ _ _ _) ((SlIn.set3 HS3.out (Nat.lt_succ_self _)).mono (Nat.le_succ _)) HM.out)
   simp [results, Tryz.results61, go_sem, *]
  have g33 : ((s[a].toNat : Int) == 33) = false := by rw [beq_eq_false_iff_ne]; omega
  by_cases h94 : s[a].toNat = 94
  ·have g94 : ((s[a].toNat : Int) == 94) = true := by rw [beq_iff_eq]; omega
   go_enter Tryz.func61, Tryz.ntmps61
   go_wp2_with fail
   generalize w.alloc (.cells #[.int .i64 0, .int .i64 0, .slice none 0 0] 25) = W1 at *
   refine (HPRE.out _).mono ?_
   rintro e w3 ⟨hb3, T, ta, tc, nx, rfl, hs3, hm⟩
   have hzz := HV1.out.facts.1
   obtain ⟨z1, r0, r1, r2, rf⟩ := (HV1.out.below hb3).facts
   have HB3 := tuck (bAfter HB1.out hb3)
   have HS3 : Hid (SlIn w3 (w.heap.size + 1) T.kids (.slice ta T.kids.length tc)) := tuck (hs3.mono hzz)
   have HM := tuck hm
   clear hb3 hs3 hm hzz
   go_wp2_with fail
   refine bodyPost_ret (v := .tuple #[.agg #[.int .i64 T.kind, .int .i64 T.num, .slice ta T.kids.length tc], .int .i64 nx]) ?_ rfl (HP.out T nx _ ta tc (bSet3 HB3.out (Nat.le_refl _) _ _ _ _ _ _) ((SlIn.set3 HS3.out (Nat.lt_succ_self _)).mono (Nat.le_succ _)) HM.out)
   simp [results, Tryz.results61, go_sem, *]
  have g94 : ((s[a].toNat : Int) == 94) = false := by rw [beq_eq_false_iff_ne]; omega
  by_cases h95 : s[a].toNat = 95
  ·have g95 : ((s[a].toNat : Int) == 95) = true := by rw [beq_iff_eq]; omega
   go_enter Tryz.func61, Tryz.ntmps61
   go_wp2_with fail
   generalize w.alloc (.cells #[.int .i64 0, .int .i64 0, .slice none 0 0] 25) = W1 at *
   refine (HPRE.out _).mono ?_
   rintro e w3 ⟨hb3, T, ta, tc, nx, rfl, hs3, hm⟩
   have hzz := HV1.out.facts.1
   obtain ⟨z1, r0, r1, r2, rf⟩ := (HV1.out.below hb3).facts
   have HB3 := tuck (bAfter HB1.out hb3)
   have HS3 : Hid (SlIn w3 (w.heap.size + 1) T.kids (.slice ta T.kids.length tc)) := tuck (hs3.mono hzz)
   have HM := tuck hm
   clear hb3 hs3 hm hzz
   go_wp2_with fail
   refine bodyPost_ret (v := .tuple #[.agg #[.int .i64 T.kind, .int .i64 T.num, .slice ta T.kids.length tc], .int .i64 nx]) ?_ rfl (HP.out T nx _ ta tc (bSet3 HB3.out (Nat.le_refl _) _ _ _ _ _ _) ((SlIn.set3 HS3.out (Nat.lt_succ_self _)).mono (Nat.le_succ _)) HM.out)
   simp [results, Tryz.results61, go_sem, *]
  have g95 : ((s[a].toNat : Int) == 95) = false := by rw [beq_eq_false_iff_ne]; omega
  by_cases h40 : s[a].toNat = 40
  ·have g40 : ((s[a].toNat : Int) == 40) = true := by rw [beq_iff_eq]; omega
   go_enter Tryz.func61, Tryz.ntmps61
   go_wp2_with fail
   generalize w.alloc (.cells #[.int .i64 0, .int .i64 0, .slice none 0 0] 25) = W1 at *
   refine (HRND.out _).mono ?_
   rintro e w3 ⟨hb3, T, ta, tc, nx, rfl, hs3, hm⟩
   have hzz := HV1.out.facts.1
   obtain ⟨z1, r0, r1, r2, rf⟩ := (HV1.out.below hb3).facts
   have HB3 := tuck (bAfter HB1.out hb3)
   have HS3 : Hid (SlIn w3 (w.heap.size + 1) T.kids (.slice ta T.kids.length tc)) := tuck (hs3.mono hzz)
   have HM := tuck hm
   clear hb3 hs3 hm hzz
   go_wp2_with fail
   refine bodyPost_ret (v := .tuple #[.agg #[.int .i64 T.kind, .int .i64 T.num, .slice ta T.kids.length tc], .int .i64 nx]) ?_ rfl (HP.out T nx _ ta tc (bSet3 HB3.out (Nat.le_refl _) _ _ _ _ _ _) ((SlIn.set3 HS3.out (Nat.lt_succ_self _)).mono (Nat.le_succ _)) HM.out)
   simp [results, Tryz.results61, go_sem, *]
  have g40 : ((s[a].toNat : Int) == 40) = false := by rw [beq_eq_false_iff_ne]; omega
  by_cases h91 : s[a].toNat = 91
  ·have g91 : ((s[a].toNat : Int) == 91) = true := by rw [beq_iff_eq]; omega
   go_enter Tryz.func61, Tryz.ntmps61
   go_wp2_with fail
   generalize w.alloc (.cells #[.int .i64 0, .int .i64 0, .slice none 0 0] 25) = W1 at *
   refine (HR1.out _).mono ?_
   rintro e w3 ⟨hb3, T, ta, tc, nx, rfl, hs3, hm⟩
   have hbx := below1 w3 (.cells #[.int .i64 T.kind, .int .i64 T.num, .slice ta T.kids.length tc] 25)
   have HV3 := tuck ((HV1.out.below hb3).below hbx)
   have HVT := tuck (VarAt.new w3 T.kind T.num (.slice ta T.kids.length tc))
   have HB3 := tuck (bAfter HB1.out (bAfter hb3 hbx))
   have HZ1 : Hid (w.heap.size + 1 ≤ W1.heap.size) := tuck HV1.out.facts.1
   have HS3 := tuck (hs3.below hbx)
   have HM := tuck hm
   obtain ⟨z1, r0, r1, r2, rf⟩ := HV3.out.facts
   clear hb3 hs3 hbx hm
   by_cases h0 : nx < 0
   ·have kn : decide (nx < 0) = true := decide_eq_true h0
    go_wp2_with fail
    refine bodyPost_ret (v := .tuple #[.agg #[.int .i64 0, .int .i64 0, .slice none 0 0], .int .i64 (-1)]) ?_ rfl (HP.out zeroT (-1) _ none 0 ?_ (SlIn.nil _ _ _ _) (by omega))
    (focus (simp [results, Tryz.results61, go_sem, *]; done))
    first | exact bSet3 HB3.out (Nat.le_refl _) _ _ _ _ _ _ | exact HB3.out
   by_cases h1 : (s.size : Int) ≤ nx
   ·have kn : decide (nx < 0) = false := decide_eq_false h0
    have kg : decide ((s.size : Int) ≤ nx) = true := decide_eq_true h1
    go_wp2_with fail
    refine bodyPost_ret (v := .tuple #[.agg #[.int .i64 0, .int .i64 0, .slice none 0 0], .int .i64 (-1)]) ?_ rfl (HP.out zeroT (-1) _ none 0 ?_ (SlIn.nil _ _ _ _) (by omega))
    (focus (simp [results, Tryz.results61, go_sem, *]; done))
    first | exact bSet3 HB3.out (Nat.le_refl _) _ _ _ _ _ _ | exact HB3.out
   obtain ⟨n, rfl⟩ : ∃ n : Nat, nx = n := ⟨nx.toNat, by omega⟩
   have hl : n < s.size := by omega
   have kn : decide ((n : Int) < 0) = false := decide_eq_false (by omega)
   have kg : decide ((s.size : Int) ≤ (n : Int)) = false := decide_eq_false (by omega)
   have ki : (n : Int) < (s.size : Int) := by omega
   clear h0 h1
   go_wp2_with fail
   all_goals first
   | (refine bodyPost_ret (v := .tuple #[.agg #[.int .i64 0, .int .i64 0, .slice none 0 0], .int .i64 (-1)]) ?_ rfl (HP.out zeroT (-1) _ none 0 ?_ (SlIn.nil _ _ _ _) (by omega)); (focus (simp [results, Tryz.results61, go_sem, *]; done)); first | exact bSet3 HB3.out (Nat.le_refl _) _ _ _ _ _ _ | exact HB3.out)
   | (
    refine (HR2.out n _ hl).mono ?_
    rintro e w5 ⟨hb5, U, ua, uc, ny, rfl, hs5, hm2⟩
    have HZ3 : Hid (w.heap.size + 1 ≤ (w3.alloc (.cells #[.int .i64 T.kind, .int .i64 T.num, .slice ta T.kids.length tc] 25)).heap.size) := tuck z1
    have hby := below1 w5 (.cells #[.int .i64 U.kind, .int .i64 U.num, .slice ua U.kids.length uc] 25)
    have HV5 := tuck ((HV3.out.below hb5).below hby)
    have HVT5 := tuck ((HVT.out.below hb5).below hby)
    have HVU5 := tuck (VarAt.new w5 U.kind U.num (.slice ua U.kids.length uc))
    have HB5 := tuck (bAfter HB3.out (bAfter hb5 hby))
    have HST := tuck ((HS3.out.below hb5).below hby)
    have HSU := tuck (hs5.below hby)
    have HM2 := tuck hm2
    clear z1 r0 r1 r2 rf
    obtain ⟨z1, r0, r1, r2, rf⟩ := HV5.out.facts
    have hbr := below1 (w5.alloc (.cells #[.int .i64 U.kind, .int .i64 U.num, .slice ua U.kids.length uc] 25)) (.cells #[.int .i64 T.kind, .int .i64 T.num, .slice ta T.kids.length tc, .int .i64 U.kind, .int .i64 U.num, .slice ua U.kids.length uc] 25)
    have HV6 := tuck (HV5.out.below hbr)
    have HB6 := tuck (bAfter HB5.out hbr)
    have hzt : w.heap.size + 1 ≤ W1.heap.size := HZ1.out
    have hzu := HZ3.out
    have HNODE : Hid (∀ K : Int, Calls Tryz.prog 43 #[.int .i64 K, .slice (some ⟨w5.heap.size + 1, 0, none⟩) 2 2] ((w5.alloc (.cells #[.int .i64 U.kind, .int .i64 U.num, .slice ua U.kids.length uc] 25)).alloc (.cells #[.int .i64 T.kind, .int .i64 T.num, .slice ta T.kids.length tc, .int .i64 U.kind, .int .i64 U.num, .slice ua U.kids.length uc] 25)) fun e w' => Below ((w5.alloc (.cells #[.int .i64 U.kind, .int .i64 U.num, .slice ua U.kids.length uc] 25)).alloc (.cells #[.int .i64 T.kind, .int .i64 T.num, .slice ta T.kids.length tc, .int .i64 U.kind, .int .i64 U.num, .slice ua U.kids.length uc] 25)).heap.size ((w5.alloc (.cells #[.int .i64 U.kind, .int .i64 U.num, .slice ua U.kids.length uc] 25)).alloc (.cells #[.int .i64 T.kind, .int .i64 T.num, .slice ta T.kids.length tc, .int .i64 U.kind, .int .i64 U.num, .slice ua U.kids.length uc] 25)) w' ∧ ∃ (a : Option Addr) (c : Nat), e = .returned (.agg #[.int .i64 K, .int .i64 0, .slice a 2 c]) ∧ SlX w' (fun i => i < w.heap.size + 1) [T, U] (.slice a 2 c)) := tuck fun K => by
     have h := nodeX_any K [(T, .slice ta T.kids.length tc), (U, .slice ua U.kids.length uc)] ((w5.alloc (.cells #[.int .i64 U.kind, .int .i64 U.num, .slice ua U.kids.length uc] 25)).alloc (.cells #[.int .i64 T.kind, .int .i64 T.num, .slice ta T.kids.length tc, .int .i64 U.kind, .int .i64 U.num, .slice ua U.kids.length uc] 25)) (w5.alloc (.cells #[.int .i64 U.kind, .int .i64 U.num, .slice ua U.kids.length uc] 25)).heap.size 2 25 #[.int .i64 T.kind, .int .i64 T.num, .slice ta T.kids.length tc, .int .i64 U.kind, .int .i64 U.num, .slice ua U.kids.length uc] (fun i => i < w.heap.size + 1) (fun i hi => by have h1 := HB6.out.size; have h2 := HV6.out.facts.1; omega) (by simp) (by simp) (heap_new _ _) (by simp [cellsL]) (fun x hx => by
      simp only [List.mem_cons, List.not_mem_nil, or_false] at hx
      rcases hx with rfl | rfl
      ·exact SlX.of_sl (HST.out.below hbr) (fun i hi => by omega)
      ·exact SlX.of_sl (HSU.out.below hbr) (fun i hi => by omega))
     rw [show (w5.alloc (.cells #[.int .i64 U.kind, .int .i64 U.num, .slice ua U.kids.length uc] 25)).heap.size = w5.heap.size + 1 by simp] at h
     exact h
    obtain ⟨zt, t0, t1, t2, -⟩ := HVT5.out.facts
    obtain ⟨zu, u0, u1, u2, -⟩ := HVU5.out.facts
    clear hbr hzt hzu hb5 hby hs5 hm2
    go_wp2_with fail
    refine (HNODE.out _).mono ?_
    rintro e w7 ⟨hb7, xa, xc, rfl, hs7⟩
    clear z1 r0 r1 r2 rf
    obtain ⟨z1, r0, r1, r2, rf⟩ := (HV6.out.below hb7).facts
    have HB7 := tuck (bAfter HB6.out hb7)
    have HS7 := tuck (SlX.from hs7)
    clear hb7 hs7 HNODE
    go_wp2_with fail
    first
    | (refine bodyPost_ret (v := .tuple #[.agg #[.int .i64 4, .int .i64 0, .slice xa 2 xc], .int .i64 ny]) ?_ rfl (HP.out (.mk 4 0 [T, U]) ny _ xa xc (bSet3 HB7.out (Nat.le_refl _) _ _ _ _ _ _) ((SlIn.set3 HS7.out (Nat.lt_succ_self _)).mono (Nat.le_succ _)) HM2.out); simp [results, Tryz.results61, go_sem, *]; done)
    )
  have g91 : ((s[a].toNat : Int) == 91) = false := by rw [beq_eq_false_iff_ne]; omega
  go_enter Tryz.func61, Tryz.ntmps61
  go_wp2_with fail
  generalize w.alloc (.cells #[.int .i64 0, .int .i64 0, .slice none 0 0] 25) = W1 at *
  refine (HBLK.out _).mono ?_
  rintro e w3 ⟨hb3, T, ta, tc, nx, rfl, hs3, hm⟩
  have hzz := HV1.out.facts.1
  obtain ⟨z1, r0, r1, r2, rf⟩ := (HV1.out.below hb3).facts
  have HB3 := tuck (bAfter HB1.out hb3)
  have HS3 : Hid (SlIn w3 (w.heap.size + 1) T.kids (.slice ta T.kids.length tc)) := tuck (hs3.mono hzz)
  have HM := tuck hm
  clear hb3 hs3 hm hzz
  go_wp2_with fail
  refine bodyPost_ret (v := .tuple #[.agg #[.int .i64 T.kind, .int .i64 T.num, .slice ta T.kids.length tc], .int .i64 nx]) ?_ rfl (HP.out T nx _ ta tc (bSet3 HB3.out (Nat.le_refl _) _ _ _ _ _ _) ((SlIn.set3 HS3.out (Nat.lt_succ_self _)).mono (Nat.le_succ _)) HM.out)
  simp [results, Tryz.results61, go_sem, *]
 ·have hag : decide ((s.size : Int) ≤ (a : Int)) = true := decide_eq_true (by omega)
  clear ih
  go_enter Tryz.func61, Tryz.ntmps61
  go_wp2_with fail
  refine bodyPost_ret (v := .tuple #[.agg #[.int .i64 0, .int .i64 0, .slice none 0 0], .int .i64 (-1)]) ?_ rfl (HP.out zeroT (-1) _ none 0 ?_ (SlIn.nil _ _ _ _) (by omega))
  (focus (simp [results, Tryz.results61, go_sem, *]; done))
  first | exact bSet3 HB1.out (Nat.le_refl _) _ _ _ _ _ _ | exact HB1.out
set_option maxRecDepth 100000 in
set_option maxHeartbeats 4000000 in
theorem wparse_ok (s : ByteArray) (hs : s.size ≤ 1152921504606846976) : ∀ d, d ≤ 100 → WParse s d
 | 0, _ => fun a w h0 h1 => by
  have HP : Hid (∀ (T : Tm) (nx : Int) (w' : World) (a' : Option Addr) (c' : Nat), Below w.heap.size w w' → SlIn w' w.heap.size T.kids (.slice a' T.kids.length c') → -1 ≤ nx ∧ nx ≤ s.size → PW s w (.returned (.tuple #[.agg #[.int .i64 T.kind, .int .i64 T.num, .slice a' T.kids.length c'], .int .i64 nx])) w') := tuck fun T nx w' a' c' hb hs' hm => ⟨hb, T, a', c', nx, rfl, hs', hm⟩
  generalize PW s w = post at *
  have HB1 := tuck (below1 w (.cells #[.int .i64 0, .int .i64 0, .slice none 0 0] 25))
  have HV1 := tuck (VarAt.new w 0 0 (.slice none 0 0))
  clear HV1
  go_enter Tryz.func61, Tryz.ntmps61
  go_wp2_with fail
  refine bodyPost_ret (v := .tuple #[.agg #[.int .i64 0, .int .i64 0, .slice none 0 0], .int .i64 (-1)]) ?_ rfl (HP.out zeroT (-1) _ none 0 ?_ (SlIn.nil _ _ _ _) (by omega))
  (focus (simp [results, Tryz.results61, go_sem, *]; done))
  first | exact bSet3 HB1.out (Nat.le_refl _) _ _ _ _ _ _ | exact HB1.out
 | d + 1, hd => fun a w h0 h1 => parseW_succ s hs d hd (wparse_ok s hs d (by omega)) a w h0 h1
end Go.Proofs.YtlbikgnanabjgaaGreat
