/-
  ParseW.
-/
import Derived.Test.YtlbikgnanabjgaaGreatQ03
namespace Go.Proofs.YtlbikgnanabjgaaGreat
open Go.RowKit
def decN (s : ByteArray) : Nat → Nat
 | 0 => 0
 | q + 1 => decN s q * 10 + (if h : q < s.size then s[q].toNat - 48 else 0)
def decOk (s : ByteArray) : Bool := decide (0 < s.size) && !(decide (1 < s.size) && (if h : 0 < s.size then s[0].toNat == 48 else false))
set_option maxRecDepth 100000 in
set_option maxHeartbeats 4000000 in
theorem num19_any (s : ByteArray) (hs : s.size ≤ 2) (hd : ∀ i (hi : i < s.size), 48 ≤ s[i].toNat ∧ s[i].toNat ≤ 57) (w : World) : Calls Tryz.prog 80 #[.string s] w fun e w' => w' = w ∧ e = .returned (.tuple #[.int .i64 (if decOk s = true then (decN s s.size : Int) else 0), .bool (decOk s)]) := by
 obtain ⟨post, hpost⟩ : ∃ post : Ending → World → Prop, post = fun e w' => w' = w ∧ e = .returned (.tuple #[.int .i64 (if decOk s = true then (decN s s.size : Int) else 0), .bool (decOk s)]) := ⟨_, rfl⟩
 rw [← hpost]
 have HN : Hid (decOk s = false → post (.returned (.tuple #[.int .i64 0, .bool false])) w) := tuck fun h => by rw [hpost, h]; exact ⟨rfl, rfl⟩
 have HY : Hid (decOk s = true → post (.returned (.tuple #[.int .i64 (decN s s.size : Int), .bool true])) w) := tuck fun h => by rw [hpost, h]; exact ⟨rfl, rfl⟩
 clear hpost
 by_cases h0 : s.size = 0
 ·have hk : decOk s = false := by simp [decOk, h0]
  replace HN := tuck (HN.out hk)
  have he : s = ByteArray.empty := ByteArray.size_eq_zero_iff.1 h0
  subst he
  clear HY hk hd hs
  go_enter Tryz.func80, Tryz.ntmps80
  go_wp2_with fail
  exact HN.out
 ·have hp : 0 < s.size := Nat.pos_of_ne_zero h0
  have hsz : ((s.size : Int) == 0) = false := by rw [beq_eq_false_iff_ne]; omega
  have hgt : decide ((0 : Int) < (s.size : Int)) = true := decide_eq_true (by omega)
  have h17 : decide ((17 : Int) < (s.size : Int)) = false := decide_eq_false (by omega)
  have hne : ((s[0].toNat : Int) == 45) = false := by have := hd 0 hp; simp; omega
  have HD := tuck hd
  by_cases hz : s[0].toNat = 48
  ·have hzb : ((s[0].toNat : Int) == 48) = true := by rw [hz]; rfl
   by_cases h1 : 1 < s.size
   ·have hk : decOk s = false := by simp [decOk, h1, hp, hz]
    replace HN := tuck (HN.out hk)
    have hgt1 : decide ((1 : Int) < (s.size : Int)) = true := decide_eq_true (by omega)
    clear HY hk hd hs hz
    go_enter Tryz.func80, Tryz.ntmps80
    go_wp2_with fail
    exact HN.out
   ·have hk : decOk s = true := by simp [decOk, h1, hp]
    replace HY := tuck (HY.out hk)
    have hgt1 : decide ((1 : Int) < (s.size : Int)) = false := decide_eq_false (by omega)
    clear HN hk hd hz
    go_enter Tryz.func80, Tryz.ntmps80
    go_wp2_with fail
    go_loopw [5, 6] (fun n i wr => ∃ (k q : Nat), n = .int .i64 k ∧ i = .int .i64 q ∧ q ≤ s.size ∧ k = decN s q ∧ (q = 0 → k = 0) ∧ (q = 1 → k ≤ 9) ∧ k ≤ 99 ∧ wr = w) (fun _ i _ => s.size - (intOf i).toNat)
    case atStart => exact ⟨0, 0, rfl, rfl, Nat.zero_le _, rfl, fun _ => rfl, fun h => by omega, by omega, rfl⟩
    case round =>
     obtain ⟨k, q, rfl, rfl, hq, hk, hk0, hk1, hk9, rfl⟩ := hrel
     by_cases hlt : q < s.size
     ·have hlti : decide ((q : Int) < (s.size : Int)) = true := decide_eq_true (by omega)
      have hlti2 : (q : Int) < (s.size : Int) := by omega
      obtain ⟨hd1, hd2⟩ := HD.out q hlt
      have hx1 : decide ((s[q].toNat : Int) < 48) = false := decide_eq_false (by omega)
      have hx2 : decide ((57 : Int) < (s[q].toNat : Int)) = false := decide_eq_false (by omega)
      have hkb : (k : Int) ≤ 9 := by
       have : q = 0 ∨ q = 1 := by omega
       rcases this with h | h
       ·have := hk0 h; omega
       ·have := hk1 h; omega
      have HK : Hid (decN s (q + 1) = k * 10 + (s[q].toNat - 48)) := tuck (by rw [decN, dif_pos hlt, ← hk])
      have HKB : Hid (k ≤ 9 ∧ (q = 0 → k = 0)) := tuck ⟨by omega, hk0⟩
      have HDB : Hid (48 ≤ s[q].toNat ∧ s[q].toNat ≤ 57) := tuck ⟨hd1, hd2⟩
      clear hk hk0 hk1
      go_wp2_with fail
      go_roundw
      case rel =>
       have h1 := HKB.out
       have h2 := HDB.out
       have h3 := HK.out
       exact ⟨decN s (q + 1), q + 1, by rw [h3]; congr 1; omega, by go_num, by omega, rfl, fun h => by omega, fun h => by have := h1.2 (by omega); omega, by omega, trivial⟩
      case measure => (simp [intOf]; try omega)
     ·have hlti : decide ((q : Int) < (s.size : Int)) = false := decide_eq_false (by omega)
      have hlti2 : ¬ (q : Int) < (s.size : Int) := by omega
      obtain rfl : q = s.size := by omega
      subst hk
      go_wp2_with fail
      exact HY.out
  ·have hzb : ((s[0].toNat : Int) == 48) = false := by simp; omega
   have hk : decOk s = true := by simp [decOk, hp, hz]
   replace HY := tuck (HY.out hk)
   clear HN hk hd
   go_enter Tryz.func80, Tryz.ntmps80
   go_wp2_with fail
   go_loopw [5, 6] (fun n i wr => ∃ (k q : Nat), n = .int .i64 k ∧ i = .int .i64 q ∧ q ≤ s.size ∧ k = decN s q ∧ (q = 0 → k = 0) ∧ (q = 1 → k ≤ 9) ∧ k ≤ 99 ∧ wr = w) (fun _ i _ => s.size - (intOf i).toNat)
   case atStart => exact ⟨0, 0, rfl, rfl, Nat.zero_le _, rfl, fun _ => rfl, fun h => by omega, by omega, rfl⟩
   case round =>
    obtain ⟨k, q, rfl, rfl, hq, hk, hk0, hk1, hk9, rfl⟩ := hrel
    by_cases hlt : q < s.size
    ·have hlti : decide ((q : Int) < (s.size : Int)) = true := decide_eq_true (by omega)
     have hlti2 : (q : Int) < (s.size : Int) := by omega
     obtain ⟨hd1, hd2⟩ := HD.out q hlt
     have hx1 : decide ((s[q].toNat : Int) < 48) = false := decide_eq_false (by omega)
     have hx2 : decide ((57 : Int) < (s[q].toNat : Int)) = false := decide_eq_false (by omega)
     have hkb : (k : Int) ≤ 9 := by
      have : q = 0 ∨ q = 1 := by omega
      rcases this with h | h
      ·have := hk0 h; omega
      ·have := hk1 h; omega
     have HK : Hid (decN s (q + 1) = k * 10 + (s[q].toNat - 48)) := tuck (by rw [decN, dif_pos hlt, ← hk])
     have HKB : Hid (k ≤ 9 ∧ (q = 0 → k = 0)) := tuck ⟨by omega, hk0⟩
     have HDB : Hid (48 ≤ s[q].toNat ∧ s[q].toNat ≤ 57) := tuck ⟨hd1, hd2⟩
     clear hk hk0 hk1
     go_wp2_with fail
     go_roundw
     case rel =>
      have h1 := HKB.out
      have h2 := HDB.out
      have h3 := HK.out
      exact ⟨decN s (q + 1), q + 1, by rw [h3]; congr 1; omega, by go_num, by omega, rfl, fun h => by omega, fun h => by have := h1.2 (by omega); omega, by omega, trivial⟩
     case measure => (simp [intOf]; try omega)
    ·have hlti : decide ((q : Int) < (s.size : Int)) = false := decide_eq_false (by omega)
     have hlti2 : ¬ (q : Int) < (s.size : Int) := by omega
     obtain rfl : q = s.size := by omega
     subst hk
     go_wp2_with fail
     exact HY.out
def digRun (s : ByteArray) : Nat → Nat → Nat
 | 0, _ => 0
 | d + 1, a => if h : a < s.size then (if 48 ≤ s[a].toNat ∧ s[a].toNat ≤ 57 then digRun s d (a + 1) + 1 else 0) else 0
theorem digRun_le (s : ByteArray) : ∀ d a, digRun s d a ≤ d
 | 0, _ => Nat.le_refl _
 | d + 1, a => by
  rw [digRun]
  split
  ·split
   ·have := digRun_le s d (a + 1); omega
   ·omega
  ·omega
theorem digRun_in (s : ByteArray) : ∀ d a, a ≤ s.size → a + digRun s d a ≤ s.size
 | 0, _, h => h
 | d + 1, a, h => by
  rw [digRun]
  split
  ·split
   ·have := digRun_in s d (a + 1) (by omega); omega
   ·omega
  ·omega
theorem digRun_dig (s : ByteArray) : ∀ d a i (hi : i < s.size), a ≤ i → i < a + digRun s d a → 48 ≤ s[i].toNat ∧ s[i].toNat ≤ 57
 | 0, a, i, _, h1, h2 => by rw [digRun] at h2; omega
 | d + 1, a, i, hi, h1, h2 => by
  rw [digRun] at h2
  split at h2
  ·split at h2
   ·by_cases e : i = a
    ·subst e; assumption
    ·exact digRun_dig s d (a + 1) i hi (by omega) (by omega)
   ·omega
  ·omega
def ptNum (s : ByteArray) (a d : Nat) : Option (Nat × Nat) :=
 if decOk (s.extract a (a + digRun s d a)) = true then some (decN (s.extract a (a + digRun s d a)) (s.extract a (a + digRun s d a)).size, a + digRun s d a) else none
set_option maxRecDepth 100000 in
set_option maxHeartbeats 4000000 in
theorem lnumber_any (s : ByteArray) (a d : Nat) (ha : a ≤ s.size) (hs : s.size ≤ 1152921504606846976) (hd : d ≤ 2) (w : World) : Calls Tryz.prog 70 #[.string s, .int .i64 a, .int .i64 d] w fun e w' => w' = w ∧
  e = match ptNum s a d with | some x => .returned (.tuple #[.int .i64 x.1, .int .i64 x.2]) | none => .returned (.tuple #[.int .i64 0, .int .i64 (-1)]) := by
 obtain ⟨post, hpost⟩ : ∃ post : Ending → World → Prop, post = fun e w' => w' = w ∧ e = match ptNum s a d with | some x => .returned (.tuple #[.int .i64 x.1, .int .i64 x.2]) | none => .returned (.tuple #[.int .i64 0, .int .i64 (-1)]) := ⟨_, rfl⟩
 rw [← hpost]
 have HP : Hid (∀ v, v = (match ptNum s a d with | some x => Ending.returned (.tuple #[.int .i64 x.1, .int .i64 x.2]) | none => .returned (.tuple #[.int .i64 0, .int .i64 (-1)])) → post v w) := tuck fun v h => by rw [hpost]; exact ⟨rfl, h⟩
 clear hpost
 have HIN := tuck (digRun_in s d a ha)
 have HLE := tuck (digRun_le s d a)
 have HDG := tuck (digRun_dig s d a)
 go_enter Tryz.func70, Tryz.ntmps70
 go_wp2_with fail
 go_loopw [8] (fun e wr => ∃ (k : Nat), e = .int .i64 ((a + k : Nat) : Int) ∧ k ≤ d ∧ digRun s d a = k + digRun s (d - k) (a + k) ∧ wr = w) (fun e _ => a + d - (intOf e).toNat)
 case atStart => exact ⟨0, by simp, Nat.zero_le _, by simp, rfl⟩
 case round =>
  obtain ⟨k, rfl, hk, hrun, rfl⟩ := hrel
  by_cases hkd : k < d
  ·have hkdi : decide (((a + k : Nat) : Int) < (a : Int) + (d : Int)) = true := decide_eq_true (by omega)
   obtain ⟨m, hm⟩ : ∃ m, d - k = m + 1 := ⟨d - k - 1, by omega⟩
   have hm' : d - (k + 1) = m := by omega
   rw [hm, digRun] at hrun
   by_cases hlt : a + k < s.size
   ·have hlti : decide (((a + k : Nat) : Int) < (s.size : Int)) = true := decide_eq_true (by omega)
    have hlti2 : ((a + k : Nat) : Int) < (s.size : Int) := by omega
    rw [dif_pos hlt] at hrun
    by_cases hdg : 48 ≤ s[a + k].toNat ∧ s[a + k].toNat ≤ 57
    ·rw [if_pos hdg] at hrun
     have hx1 : decide ((48 : Int) ≤ (s[a + k].toNat : Int)) = true := decide_eq_true (by omega)
     have hx2 : decide ((s[a + k].toNat : Int) ≤ 57) = true := decide_eq_true (by omega)
     have HR : Hid (digRun s d a = (k + 1) + digRun s (d - (k + 1)) (a + (k + 1))) := tuck (by rw [hm', show a + (k + 1) = a + k + 1 by omega]; omega)
     clear hrun hm hm'
     go_wp2_with fail
     go_roundw
     case rel => exact ⟨k + 1, by simp; omega, by omega, HR.out, trivial⟩
     case measure => (simp [intOf]; try omega)
    ·rw [if_neg hdg, Nat.add_zero] at hrun
     have hE := hrun
     have hx12 : decide ((48 : Int) ≤ (s[a + k].toNat : Int)) = false ∨ (decide ((48 : Int) ≤ (s[a + k].toNat : Int)) = true ∧ decide ((s[a + k].toNat : Int) ≤ 57) = false) := by
      by_cases h48 : 48 ≤ s[a + k].toNat
      ·exact Or.inr ⟨decide_eq_true (by omega), decide_eq_false (by omega)⟩
      ·exact Or.inl (decide_eq_false (by omega))
     clear hm hm' hdg
     rcases hx12 with hx1 | ⟨hx1, hx2⟩
     ·have hin := HIN.out
      rw [hE] at hin
      have hsl1 : (a : Int) ≤ ((a + k : Nat) : Int) := by omega
      have hsl2 : ((a + k : Nat) : Int) ≤ (s.size : Int) := by omega
      have hse : (s.extract a (a + k)).size = k := by rw [ByteArray.size_extract]; omega
      have HNUM := tuck (num19_any (s.extract a (a + k)) (by have := HLE.out; omega) (fun i hi => by
       rw [ByteArray.getElem_extract]
       exact HDG.out (a + i) (by omega) (by omega) (by omega)))
      have HQ := tuck (HP.out)
      unfold ptNum at HQ
      rw [hE] at HQ
      clear HP HIN HLE HDG hrun hE
      go_wp2_with fail
      refine (HNUM.out _).mono ?_
      rintro e w' ⟨rfl, rfl⟩
      by_cases hok : decOk (s.extract a (a + k)) = true
      ·rw [if_pos hok, hok]
       rw [if_pos hok] at HQ
       go_wp2_with fail
       (refine HQ.out _ ?_; simp [hse, go_sem])
      ·have hok' : decOk (s.extract a (a + k)) = false := by simpa using hok
       rw [if_neg hok, hok']
       rw [if_neg hok] at HQ
       go_wp2_with fail
       exact HQ.out _ rfl
     ·have hin := HIN.out
      rw [hE] at hin
      have hsl1 : (a : Int) ≤ ((a + k : Nat) : Int) := by omega
      have hsl2 : ((a + k : Nat) : Int) ≤ (s.size : Int) := by omega
      have hse : (s.extract a (a + k)).size = k := by rw [ByteArray.size_extract]; omega
      have HNUM := tuck (num19_any (s.extract a (a + k)) (by have := HLE.out; omega) (fun i hi => by
       rw [ByteArray.getElem_extract]
       exact HDG.out (a + i) (by omega) (by omega) (by omega)))
      have HQ := tuck (HP.out)
      unfold ptNum at HQ
      rw [hE] at HQ
      clear HP HIN HLE HDG hrun hE
      go_wp2_with fail
      refine (HNUM.out _).mono ?_
      rintro e w' ⟨rfl, rfl⟩
      by_cases hok : decOk (s.extract a (a + k)) = true
      ·rw [if_pos hok, hok]
       rw [if_pos hok] at HQ
       go_wp2_with fail
       (refine HQ.out _ ?_; simp [hse, go_sem])
      ·have hok' : decOk (s.extract a (a + k)) = false := by simpa using hok
       rw [if_neg hok, hok']
       rw [if_neg hok] at HQ
       go_wp2_with fail
       exact HQ.out _ rfl
   ·have hlti : decide (((a + k : Nat) : Int) < (s.size : Int)) = false := decide_eq_false (by omega)
    rw [dif_neg hlt, Nat.add_zero] at hrun
    have hE := hrun
    clear hm hm'
    have hin := HIN.out
    rw [hE] at hin
    have hsl1 : (a : Int) ≤ ((a + k : Nat) : Int) := by omega
    have hsl2 : ((a + k : Nat) : Int) ≤ (s.size : Int) := by omega
    have hse : (s.extract a (a + k)).size = k := by rw [ByteArray.size_extract]; omega
    have HNUM := tuck (num19_any (s.extract a (a + k)) (by have := HLE.out; omega) (fun i hi => by
     rw [ByteArray.getElem_extract]
     exact HDG.out (a + i) (by omega) (by omega) (by omega)))
    have HQ := tuck (HP.out)
    unfold ptNum at HQ
    rw [hE] at HQ
    clear HP HIN HLE HDG hrun hE
    go_wp2_with fail
    refine (HNUM.out _).mono ?_
    rintro e w' ⟨rfl, rfl⟩
    by_cases hok : decOk (s.extract a (a + k)) = true
    ·rw [if_pos hok, hok]
     rw [if_pos hok] at HQ
     go_wp2_with fail
     (refine HQ.out _ ?_; simp [hse, go_sem])
    ·have hok' : decOk (s.extract a (a + k)) = false := by simpa using hok
     rw [if_neg hok, hok']
     rw [if_neg hok] at HQ
     go_wp2_with fail
     exact HQ.out _ rfl
  ·have hkdi : decide (((a + k : Nat) : Int) < (a : Int) + (d : Int)) = false := decide_eq_false (by omega)
   rw [show d - k = 0 by omega, digRun, Nat.add_zero] at hrun
   have hE := hrun
   by_cases hlt : a + k < s.size
   ·have hlti : decide (((a + k : Nat) : Int) < (s.size : Int)) = true := decide_eq_true (by omega)
    have hin := HIN.out
    rw [hE] at hin
    have hsl1 : (a : Int) ≤ ((a + k : Nat) : Int) := by omega
    have hsl2 : ((a + k : Nat) : Int) ≤ (s.size : Int) := by omega
    have hse : (s.extract a (a + k)).size = k := by rw [ByteArray.size_extract]; omega
    have HNUM := tuck (num19_any (s.extract a (a + k)) (by have := HLE.out; omega) (fun i hi => by
     rw [ByteArray.getElem_extract]
     exact HDG.out (a + i) (by omega) (by omega) (by omega)))
    have HQ := tuck (HP.out)
    unfold ptNum at HQ
    rw [hE] at HQ
    clear HP HIN HLE HDG hrun hE
    go_wp2_with fail
    refine (HNUM.out _).mono ?_
    rintro e w' ⟨rfl, rfl⟩
    by_cases hok : decOk (s.extract a (a + k)) = true
    ·rw [if_pos hok, hok]
     rw [if_pos hok] at HQ
     go_wp2_with fail
     (refine HQ.out _ ?_; simp [hse, go_sem])
    ·have hok' : decOk (s.extract a (a + k)) = false := by simpa using hok
     rw [if_neg hok, hok']
     rw [if_neg hok] at HQ
     go_wp2_with fail
     exact HQ.out _ rfl
   ·have hlti : decide (((a + k : Nat) : Int) < (s.size : Int)) = false := decide_eq_false (by omega)
    have hin := HIN.out
    rw [hE] at hin
    have hsl1 : (a : Int) ≤ ((a + k : Nat) : Int) := by omega
    have hsl2 : ((a + k : Nat) : Int) ≤ (s.size : Int) := by omega
    have hse : (s.extract a (a + k)).size = k := by rw [ByteArray.size_extract]; omega
    have HNUM := tuck (num19_any (s.extract a (a + k)) (by have := HLE.out; omega) (fun i hi => by
     rw [ByteArray.getElem_extract]
     exact HDG.out (a + i) (by omega) (by omega) (by omega)))
    have HQ := tuck (HP.out)
    unfold ptNum at HQ
    rw [hE] at HQ
    clear HP HIN HLE HDG hrun hE
    go_wp2_with fail
    refine (HNUM.out _).mono ?_
    rintro e w' ⟨rfl, rfl⟩
    by_cases hok : decOk (s.extract a (a + k)) = true
    ·rw [if_pos hok, hok]
     rw [if_pos hok] at HQ
     go_wp2_with fail
     (refine HQ.out _ ?_; simp [hse, go_sem])
    ·have hok' : decOk (s.extract a (a + k)) = false := by simpa using hok
     rw [if_neg hok, hok']
     rw [if_neg hok] at HQ
     go_wp2_with fail
     exact HQ.out _ rfl
end Go.Proofs.YtlbikgnanabjgaaGreat
