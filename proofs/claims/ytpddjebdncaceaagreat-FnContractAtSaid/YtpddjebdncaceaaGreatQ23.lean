/-
  ParseW, Same.
-/
import Derived.Test.YtpddjebdncaceaaGreatQ08
import Derived.Test.YtpddjebdncaceaaGreatQ10
import Derived.Carry
namespace Go.Proofs.YtpddjebdncaceaaGreat
open Go.RowKit
def decN (s : ByteArray) : Nat → Nat
 | 0 => 0
 | q + 1 => decN s q * 10 + (if h : q < s.size then s[q].toNat - 48 else 0)
def decOk (s : ByteArray) : Bool := decide (0 < s.size) && !(decide (1 < s.size) && (if h : 0 < s.size then s[0].toNat == 48 else false))
set_option maxRecDepth 100000 in
set_option maxHeartbeats 4000000 in
theorem num19_any (s : ByteArray) (hs : s.size ≤ 2) (hd : ∀ i (hi : i < s.size), 48 ≤ s[i].toNat ∧ s[i].toNat ≤ 57) (w : World) : Calls Tryz.prog 146 #[.string s] w fun e w' => w' = w ∧ e = .returned (.tuple #[I6 (if decOk s = true then (decN s s.size : Int) else 0), .bool (decOk s)]) := by
 obtain ⟨post, hpost⟩ : ∃ post : Ending → World → Prop, post = fun e w' => w' = w ∧ e = .returned (.tuple #[I6 (if decOk s = true then (decN s s.size : Int) else 0), .bool (decOk s)]) := ⟨_, rfl⟩
 rw [← hpost]
 have HN : Hid (decOk s = false → post (.returned (.tuple #[I6 0, .bool false])) w) := tuck fun h => by rw [hpost, h]; exact ⟨rfl, rfl⟩
 have HY : Hid (decOk s = true → post (.returned (.tuple #[I6 (decN s s.size : Int), .bool true])) w) := tuck fun h => by rw [hpost, h]; exact ⟨rfl, rfl⟩
 clear hpost
 by_cases h0 : s.size = 0
 ·have hk : decOk s = false := by simp [decOk, h0]
  replace HN := tuck (HN.out hk)
  have he : s = ByteArray.empty := ByteArray.size_eq_zero_iff.1 h0
  subst he
  clear HY hk hd hs
  go_enter Tryz.func146, Tryz.ntmps146
  go_wp2_with fail
  exact HN.out
 ·have hp : 0 < s.size := Nat.pos_of_ne_zero h0
  have hsz : ((s.size : Int) == 0) = false := by rw [beq_eq_false_iff_ne]; omega
  have hgt : decide ((0 : Int) < (s.size : Int)) = true := decide_eq_true (by omega)
  have h17 : decide ((17 : Int) < (s.size : Int)) = false := decide_eq_false (by omega)
  have hne : ((s[0].toNat : Int) == 45) = false := by have := hd 0 hp; simp; omega
  have HD := tuck hd
  by_cases hz : s[0].toNat = 48
  ·have hzb : ((s[0].toNat : Int) == 48) = true := by rw [hz]; rfl
   by_cases h1 : 1 < s.size
   ·have hk : decOk s = false := by simp [decOk, h1, hp, hz]
    replace HN := tuck (HN.out hk)
    have hgt1 : decide ((1 : Int) < (s.size : Int)) = true := decide_eq_true (by omega)
    clear HY hk hd hs hz
    go_enter Tryz.func146, Tryz.ntmps146
    go_wp2_with fail
    exact HN.out
   ·have hk : decOk s = true := by simp [decOk, h1, hp]
    replace HY := tuck (HY.out hk)
    have hgt1 : decide ((1 : Int) < (s.size : Int)) = false := decide_eq_false (by omega)
    clear HN hk hd hz
    go_enter Tryz.func146, Tryz.ntmps146
    go_wp2_with fail
    go_loopw [5, 6] (fun n i wr => ∃ (k q : Nat), n = I6 k ∧ i = I6 q ∧ q ≤ s.size ∧ k = decN s q ∧ (q = 0 → k = 0) ∧ (q = 1 → k ≤ 9) ∧ k ≤ 99 ∧ wr = w) (fun _ i _ => s.size - (intOf i).toNat)
    case atStart => exact ⟨0, 0, rfl, rfl, Nat.zero_le _, rfl, fun _ => rfl, fun h => by omega, by omega, rfl⟩
    case round =>
     obtain ⟨k, q, rfl, rfl, hq, hk, hk0, hk1, hk9, rfl⟩ := hrel
     by_cases hlt : q < s.size
     ·have hlti : decide ((q : Int) < (s.size : Int)) = true := decide_eq_true (by omega)
      have hlti2 : (q : Int) < (s.size : Int) := by omega
      obtain ⟨hd1, hd2⟩ := HD.out q hlt
      have hx1 : decide ((s[q].toNat : Int) < 48) = false := decide_eq_false (by omega)
      have hx2 : decide ((57 : Int) < (s[q].toNat : Int)) = false := decide_eq_false (by omega)
      have hkb : (k : Int) ≤ 9 := by
       have : q = 0 ∨ q = 1 := by omega
       rcases this with h | h
       ·have := hk0 h; omega
       ·have := hk1 h; omega
      have HK : Hid (decN s (q + 1) = k * 10 + (s[q].toNat - 48)) := tuck (by rw [decN, dif_pos hlt, ← hk])
      have HKB : Hid (k ≤ 9 ∧ (q = 0 → k = 0)) := tuck ⟨by omega, hk0⟩
      have HDB : Hid (48 ≤ s[q].toNat ∧ s[q].toNat ≤ 57) := tuck ⟨hd1, hd2⟩
      clear hk hk0 hk1
      go_wp2_with fail
      go_roundw
      case rel =>
       have h1 := HKB.out
       have h2 := HDB.out
       have h3 := HK.out
       exact ⟨decN s (q + 1), q + 1, by rw [h3]; congr 1; omega, by go_num, by omega, rfl, fun h => by omega, fun h => by have := h1.2 (by omega); omega, by omega, trivial⟩
      case measure => (simp [intOf]; try omega)
     ·have hlti : decide ((q : Int) < (s.size : Int)) = false := decide_eq_false (by omega)
      have hlti2 : ¬ (q : Int) < (s.size : Int) := by omega
      obtain rfl : q = s.size := by omega
      subst hk
      go_wp2_with fail
      exact HY.out
  ·have hzb : ((s[0].toNat : Int) == 48) = false := by simp; omega
   have hk : decOk s = true := by simp [decOk, hp, hz]
   replace HY := tuck (HY.out hk)
   clear HN hk hd
   go_enter Tryz.func146, Tryz.ntmps146
   go_wp2_with fail
   go_loopw [5, 6] (fun n i wr => ∃ (k q : Nat), n = I6 k ∧ i = I6 q ∧ q ≤ s.size ∧ k = decN s q ∧ (q = 0 → k = 0) ∧ (q = 1 → k ≤ 9) ∧ k ≤ 99 ∧ wr = w) (fun _ i _ => s.size - (intOf i).toNat)
   case atStart => exact ⟨0, 0, rfl, rfl, Nat.zero_le _, rfl, fun _ => rfl, fun h => by omega, by omega, rfl⟩
   case round =>
    obtain ⟨k, q, rfl, rfl, hq, hk, hk0, hk1, hk9, rfl⟩ := hrel
    by_cases hlt : q < s.size
    ·have hlti : decide ((q : Int) < (s.size : Int)) = true := decide_eq_true (by omega)
     have hlti2 : (q : Int) < (s.size : Int) := by omega
     obtain ⟨hd1, hd2⟩ := HD.out q hlt
     have hx1 : decide ((s[q].toNat : Int) < 48) = false := decide_eq_false (by omega)
     have hx2 : decide ((57 : Int) < (s[q].toNat : Int)) = false := decide_eq_false (by omega)
     have hkb : (k : Int) ≤ 9 := by
      have : q = 0 ∨ q = 1 := by omega
      rcases this with h | h
      ·have := hk0 h; omega
      ·have := hk1 h; omega
     have HK : Hid (decN s (q + 1) = k * 10 + (s[q].toNat - 48)) := tuck (by rw [decN, dif_pos hlt, ← hk])
     have HKB : Hid (k ≤ 9 ∧ (q = 0 → k = 0)) := tuck ⟨by omega, hk0⟩
     have HDB : Hid (48 ≤ s[q].toNat ∧ s[q].toNat ≤ 57) := tuck ⟨hd1, hd2⟩
     clear hk hk0 hk1
     go_wp2_with fail
     go_roundw
     case rel =>
      have h1 := HKB.out
      have h2 := HDB.out
      have h3 := HK.out
      exact ⟨decN s (q + 1), q + 1, by rw [h3]; congr 1; omega, by go_num, by omega, rfl, fun h => by omega, fun h => by have := h1.2 (by omega); omega, by omega, trivial⟩
     case measure => (simp [intOf]; try omega)
    ·have hlti : decide ((q : Int) < (s.size : Int)) = false := decide_eq_false (by omega)
     have hlti2 : ¬ (q : Int) < (s.size : Int) := by omega
     obtain rfl : q = s.size := by omega
     subst hk
     go_wp2_with fail
     exact HY.out
def digRun (s : ByteArray) : Nat → Nat → Nat
 | 0, _ => 0
 | d + 1, a => if h : a < s.size then (if 48 ≤ s[a].toNat ∧ s[a].toNat ≤ 57 then digRun s d (a + 1) + 1 else 0) else 0
theorem digRun_le (s : ByteArray) : ∀ d a, digRun s d a ≤ d
 | 0, _ => Nat.le_refl _
 | d + 1, a => by
  rw [digRun]
  split
  ·split
   ·have := digRun_le s d (a + 1); omega
   ·omega
  ·omega
theorem digRun_in (s : ByteArray) : ∀ d a, a ≤ s.size → a + digRun s d a ≤ s.size
 | 0, _, h => h
 | d + 1, a, h => by
  rw [digRun]
  split
  ·split
   ·have := digRun_in s d (a + 1) (by omega); omega
   ·omega
  ·omega
theorem digRun_dig (s : ByteArray) : ∀ d a i (hi : i < s.size), a ≤ i → i < a + digRun s d a → 48 ≤ s[i].toNat ∧ s[i].toNat ≤ 57
 | 0, a, i, _, h1, h2 => by rw [digRun] at h2; omega
 | d + 1, a, i, hi, h1, h2 => by
  rw [digRun] at h2
  split at h2
  ·split at h2
   ·by_cases e : i = a
    ·subst e; assumption
    ·exact digRun_dig s d (a + 1) i hi (by omega) (by omega)
   ·omega
  ·omega
def ptNum (s : ByteArray) (a d : Nat) : Option (Nat × Nat) :=
 if decOk (s.extract a (a + digRun s d a)) = true then some (decN (s.extract a (a + digRun s d a)) (s.extract a (a + digRun s d a)).size, a + digRun s d a) else none
set_option maxRecDepth 100000 in
set_option maxHeartbeats 4000000 in
theorem lnumber_any (s : ByteArray) (a d : Nat) (ha : a ≤ s.size) (hs : s.size ≤ 1152921504606846976) (hd : d ≤ 2) (w : World) : Calls Tryz.prog 139 #[.string s, I6 a, I6 d] w fun e w' => w' = w ∧
  e = match ptNum s a d with | some x => .returned (.tuple #[I6 x.1, I6 x.2]) | none => .returned (.tuple #[I6 0, I6 (-1)]) := by
 obtain ⟨post, hpost⟩ : ∃ post : Ending → World → Prop, post = fun e w' => w' = w ∧ e = match ptNum s a d with | some x => .returned (.tuple #[I6 x.1, I6 x.2]) | none => .returned (.tuple #[I6 0, I6 (-1)]) := ⟨_, rfl⟩
 rw [← hpost]
 have HP : Hid (∀ v, v = (match ptNum s a d with | some x => Ending.returned (.tuple #[I6 x.1, I6 x.2]) | none => .returned (.tuple #[I6 0, I6 (-1)])) → post v w) := tuck fun v h => by rw [hpost]; exact ⟨rfl, h⟩
 clear hpost
 have HIN := tuck (digRun_in s d a ha)
 have HLE := tuck (digRun_le s d a)
 have HDG := tuck (digRun_dig s d a)
 go_enter Tryz.func139, Tryz.ntmps139
 go_wp2_with fail
 go_loopw [8] (fun e wr => ∃ (k : Nat), e = I6 ((a + k : Nat) : Int) ∧ k ≤ d ∧ digRun s d a = k + digRun s (d - k) (a + k) ∧ wr = w) (fun e _ => a + d - (intOf e).toNat)
 case atStart => exact ⟨0, by simp, Nat.zero_le _, by simp, rfl⟩
 case round =>
  obtain ⟨k, rfl, hk, hrun, rfl⟩ := hrel
  by_cases hkd : k < d
  ·have hkdi : decide (((a + k : Nat) : Int) < (a : Int) + (d : Int)) = true := decide_eq_true (by omega)
   obtain ⟨m, hm⟩ : ∃ m, d - k = m + 1 := ⟨d - k - 1, by omega⟩
   have hm' : d - (k + 1) = m := by omega
   rw [hm, digRun] at hrun
   by_cases hlt : a + k < s.size
   ·have hlti : decide (((a + k : Nat) : Int) < (s.size : Int)) = true := decide_eq_true (by omega)
    have hlti2 : ((a + k : Nat) : Int) < (s.size : Int) := by omega
    rw [dif_pos hlt] at hrun
    by_cases hdg : 48 ≤ s[a + k].toNat ∧ s[a + k].toNat ≤ 57
    ·rw [if_pos hdg] at hrun
     have hx1 : decide ((48 : Int) ≤ (s[a + k].toNat : Int)) = true := decide_eq_true (by omega)
     have hx2 : decide ((s[a + k].toNat : Int) ≤ 57) = true := decide_eq_true (by omega)
     have HR : Hid (digRun s d a = (k + 1) + digRun s (d - (k + 1)) (a + (k + 1))) := tuck (by rw [hm', show a + (k + 1) = a + k + 1 by omega]; omega)
     clear hrun hm hm'
     go_wp2_with fail
     go_roundw
     case rel => exact ⟨k + 1, by simp; omega, by omega, HR.out, trivial⟩
     case measure => (simp [intOf]; try omega)
    ·rw [if_neg hdg, Nat.add_zero] at hrun
     have hE := hrun
     have hx12 : decide ((48 : Int) ≤ (s[a + k].toNat : Int)) = false ∨ (decide ((48 : Int) ≤ (s[a + k].toNat : Int)) = true ∧ decide ((s[a + k].toNat : Int) ≤ 57) = false) := by
      by_cases h48 : 48 ≤ s[a + k].toNat
      ·exact Or.inr ⟨decide_eq_true (by omega), decide_eq_false (by omega)⟩
      ·exact Or.inl (decide_eq_false (by omega))
     clear hm hm' hdg
     rcases hx12 with hx1 | ⟨hx1, hx2⟩
     ·have hin := HIN.out
      rw [hE] at hin
      have hsl1 : (a : Int) ≤ ((a + k : Nat) : Int) := by omega
      have hsl2 : ((a + k : Nat) : Int) ≤ (s.size : Int) := by omega
      have hse : (s.extract a (a + k)).size = k := by rw [ByteArray.size_extract]; omega
      have HNUM := tuck (num19_any (s.extract a (a + k)) (by have := HLE.out; omega) (fun i hi => by
       rw [ByteArray.getElem_extract]
       exact HDG.out (a + i) (by omega) (by omega) (by omega)))
      have HQ := tuck (HP.out)
      unfold ptNum at HQ
      rw [hE] at HQ
      clear HP HIN HLE HDG hrun hE
      go_wp2_with fail
      refine (HNUM.out _).mono ?_
      rintro e w' ⟨rfl, rfl⟩
      by_cases hok : decOk (s.extract a (a + k)) = true
      ·rw [if_pos hok, hok]
       rw [if_pos hok] at HQ
       go_wp2_with fail
       (refine HQ.out _ ?_; simp [hse, go_sem])
      ·have hok' : decOk (s.extract a (a + k)) = false := by simpa using hok
       rw [if_neg hok, hok']
       rw [if_neg hok] at HQ
       go_wp2_with fail
       exact HQ.out _ rfl
     ·have hin := HIN.out
      rw [hE] at hin
      have hsl1 : (a : Int) ≤ ((a + k : Nat) : Int) := by omega
      have hsl2 : ((a + k : Nat) : Int) ≤ (s.size : Int) := by omega
      have hse : (s.extract a (a + k)).size = k := by rw [ByteArray.size_extract]; omega
      have HNUM := tuck (num19_any (s.extract a (a + k)) (by have := HLE.out; omega) (fun i hi => by
       rw [ByteArray.getElem_extract]
       exact HDG.out (a + i) (by omega) (by omega) (by omega)))
      have HQ := tuck (HP.out)
      unfold ptNum at HQ
      rw [hE] at HQ
      clear HP HIN HLE HDG hrun hE
      go_wp2_with fail
      refine (HNUM.out _).mono ?_
      rintro e w' ⟨rfl, rfl⟩
      by_cases hok : decOk (s.extract a (a + k)) = true
      ·rw [if_pos hok, hok]
       rw [if_pos hok] at HQ
       go_wp2_with fail
       (refine HQ.out _ ?_; simp [hse, go_sem])
      ·have hok' : decOk (s.extract a (a + k)) = false := by simpa using hok
       rw [if_neg hok, hok']
       rw [if_neg hok] at HQ
       go_wp2_with fail
       exact HQ.out _ rfl
   ·have hlti : decide (((a + k : Nat) : Int) < (s.size : Int)) = false := decide_eq_false (by omega)
    rw [dif_neg hlt, Nat.add_zero] at hrun
    have hE := hrun
    clear hm hm'
    have hin := HIN.out
    rw [hE] at hin
    have hsl1 : (a : Int) ≤ ((a + k : Nat) : Int) := by omega
    have hsl2 : ((a + k : Nat) : Int) ≤ (s.size : Int) := by omega
    have hse : (s.extract a (a + k)).size = k := by rw [ByteArray.size_extract]; omega
    have HNUM := tuck (num19_any (s.extract a (a + k)) (by have := HLE.out; omega) (fun i hi => by
     rw [ByteArray.getElem_extract]
     exact HDG.out (a + i) (by omega) (by omega) (by omega)))
    have HQ := tuck (HP.out)
    unfold ptNum at HQ
    rw [hE] at HQ
    clear HP HIN HLE HDG hrun hE
    go_wp2_with fail
    refine (HNUM.out _).mono ?_
    rintro e w' ⟨rfl, rfl⟩
    by_cases hok : decOk (s.extract a (a + k)) = true
    ·rw [if_pos hok, hok]
     rw [if_pos hok] at HQ
     go_wp2_with fail
     (refine HQ.out _ ?_; simp [hse, go_sem])
    ·have hok' : decOk (s.extract a (a + k)) = false := by simpa using hok
     rw [if_neg hok, hok']
     rw [if_neg hok] at HQ
     go_wp2_with fail
     exact HQ.out _ rfl
  ·have hkdi : decide (((a + k : Nat) : Int) < (a : Int) + (d : Int)) = false := decide_eq_false (by omega)
   rw [show d - k = 0 by omega, digRun, Nat.add_zero] at hrun
   have hE := hrun
   by_cases hlt : a + k < s.size
   ·have hlti : decide (((a + k : Nat) : Int) < (s.size : Int)) = true := decide_eq_true (by omega)
    have hin := HIN.out
    rw [hE] at hin
    have hsl1 : (a : Int) ≤ ((a + k : Nat) : Int) := by omega
    have hsl2 : ((a + k : Nat) : Int) ≤ (s.size : Int) := by omega
    have hse : (s.extract a (a + k)).size = k := by rw [ByteArray.size_extract]; omega
    have HNUM := tuck (num19_any (s.extract a (a + k)) (by have := HLE.out; omega) (fun i hi => by
     rw [ByteArray.getElem_extract]
     exact HDG.out (a + i) (by omega) (by omega) (by omega)))
    have HQ := tuck (HP.out)
    unfold ptNum at HQ
    rw [hE] at HQ
    clear HP HIN HLE HDG hrun hE
    go_wp2_with fail
    refine (HNUM.out _).mono ?_
    rintro e w' ⟨rfl, rfl⟩
    by_cases hok : decOk (s.extract a (a + k)) = true
    ·rw [if_pos hok, hok]
     rw [if_pos hok] at HQ
     go_wp2_with fail
     (refine HQ.out _ ?_; simp [hse, go_sem])
    ·have hok' : decOk (s.extract a (a + k)) = false := by simpa using hok
     rw [if_neg hok, hok']
     rw [if_neg hok] at HQ
     go_wp2_with fail
     exact HQ.out _ rfl
   ·have hlti : decide (((a + k : Nat) : Int) < (s.size : Int)) = false := decide_eq_false (by omega)
    have hin := HIN.out
    rw [hE] at hin
    have hsl1 : (a : Int) ≤ ((a + k : Nat) : Int) := by omega
    have hsl2 : ((a + k : Nat) : Int) ≤ (s.size : Int) := by omega
    have hse : (s.extract a (a + k)).size = k := by rw [ByteArray.size_extract]; omega
    have HNUM := tuck (num19_any (s.extract a (a + k)) (by have := HLE.out; omega) (fun i hi => by
     rw [ByteArray.getElem_extract]
     exact HDG.out (a + i) (by omega) (by omega) (by omega)))
    have HQ := tuck (HP.out)
    unfold ptNum at HQ
    rw [hE] at HQ
    clear HP HIN HLE HDG hrun hE
    go_wp2_with fail
    refine (HNUM.out _).mono ?_
    rintro e w' ⟨rfl, rfl⟩
    by_cases hok : decOk (s.extract a (a + k)) = true
    ·rw [if_pos hok, hok]
     rw [if_pos hok] at HQ
     go_wp2_with fail
     (refine HQ.out _ ?_; simp [hse, go_sem])
    ·have hok' : decOk (s.extract a (a + k)) = false := by simpa using hok
     rw [if_neg hok, hok']
     rw [if_neg hok] at HQ
     go_wp2_with fail
     exact HQ.out _ rfl
end Go.Proofs.YtpddjebdncaceaaGreat
namespace Go.Proofs.YtpddjebdncaceaaGreat
open Go.RowKit
noncomputable def rootSame (t u : Tm) : Bool := tr (t.kind = u.kind ∧ t.num = u.num ∧ t.kids.length = u.kids.length)
theorem sameRoot_any (t u : Tm) (a a' : Option Addr) (c c' : Nat) (w : World) : Calls Tryz.prog 88 #[.agg #[I6 t.kind, I6 t.num, .slice a t.kids.length c], .agg #[I6 u.kind, I6 u.num, .slice a' u.kids.length c']] w (BoolPost w (rootSame t u)) := by
 by_cases h1 : t.kind = u.kind
 rotate_left
 ·rw [show rootSame t u = false from tr_not fun h => h1 h.1]
  have g1 : (t.kind == u.kind) = false := by simpa using h1
  go_enter Tryz.func88, Tryz.ntmps88
  go_wp2
  go_ret
  exact ⟨rfl, below2 _ _ _⟩
 have g1 : (t.kind == u.kind) = true := by simpa using h1
 by_cases h2 : t.num = u.num
 rotate_left
 ·rw [show rootSame t u = false from tr_not fun h => h2 h.2.1]
  have g2 : (t.num == u.num) = false := by simpa using h2
  clear h1 h2
  go_enter Tryz.func88, Tryz.ntmps88
  go_wp2
  go_ret
  exact ⟨rfl, below2 _ _ _⟩
 have g2 : (t.num == u.num) = true := by simpa using h2
 have HR : Hid (rootSame t u = ((t.kids.length : Int) == (u.kids.length : Int))) := by
  show _ = _
  rw [Bool.eq_iff_iff, rootSame, tr_iff, beq_iff_eq]
  exact ⟨fun h => by omega, fun h => ⟨h1, h2, by omega⟩⟩
 generalize rootSame t u = r at *
 clear h1 h2
 go_enter Tryz.func88, Tryz.ntmps88
 go_wp2
 go_ret
 exact ⟨ret_bool HR.out.symm, below2 _ _ _⟩
theorem same_root {t u : Tm} : same t u = (rootSame t u && same t.kids u.kids) := by
 rw [same_mk, Bool.eq_iff_iff]
 simp only [Bool.and_eq_true, same_iff, rootSame, tr_iff]
 constructor
 ·rintro ⟨⟨h1, h2⟩, h3⟩; exact ⟨⟨h1, h2, by rw [h3]⟩, h3⟩
 ·rintro ⟨⟨h1, h2, _⟩, h3⟩; exact ⟨⟨h1, h2⟩, h3⟩
set_option maxRecDepth 100000 in
theorem sameTree_any : ∀ (l : List Tm) (k n : Int) (u : Tm) (w : World) (s v2 : Value), SlIn w 0 l s → TmIn w 0 u v2 →
  Calls Tryz.prog 52 #[.agg #[I6 k, I6 n, s], v2] w (BoolPost w (same (.mk k n l) u)) := by
 intro l
 induction l using Tm.ind with
 | h l ih =>
 intro k n u w v1 v2 h1 h2
 obtain ⟨s2, rfl, h2⟩ := h2
 obtain ⟨a, cap, b, o, rfl, hl, hp, hc⟩ := h1.open
 obtain ⟨a', cap', b', o', rfl, hl', hp', hc'⟩ := h2.open
 clear h1 h2
 have HI := tuck ih
 have HP := tuck hp
 have HP' := tuck hp'
 have HC := tuck hc
 have HC' := tuck hc'
 have HR := tuck (sameRoot_any (.mk k n l) u a a' cap cap')
 clear ih hp hp' hc hc'
 unfold maxLen at hl hl'
 rw [same_root]
 change Hid (∀ w, Calls Tryz.prog 88 #[.agg #[I6 k, I6 n, .slice a l.length cap], _] w _) at HR
 change Calls _ _ _ _ (BoolPost w (rootSame _ u && same l u.kids))
 by_cases hr : rootSame (.mk k n l) u = true
 rotate_left
 ·have hr' : rootSame (.mk k n l) u = false := by simpa using hr
  rw [hr'] at HR ⊢
  clear hr hr'
  go_enter Tryz.func52, Tryz.ntmps52
  go_wp2_with (go_at_call 88; refine (HR.out _).mono ?_; rintro e w1 ⟨rfl, hb1⟩; have HB1 := tuck hb1; clear hb1)
  go_ret
  exact ⟨rfl, bAfter (below2 _ _ _) HB1.out⟩
 rw [hr] at HR ⊢
 have hlen : l.length = u.kids.length := (tr_iff.1 hr).2.2
 clear hr
 rw [Bool.true_and]
 have HL := tuck hlen
 clear hlen
 generalize u.kids = m at *
 generalize u.kind = uk at *
 generalize u.num = un at *
 have hge : m.length ≤ l.length := Nat.le_of_eq HL.out.symm
 have hle : l.length ≤ m.length := Nat.le_of_eq HL.out
 go_enter Tryz.func52, Tryz.ntmps52
 go_wp2_with (go_at_call 88; refine (HR.out _).mono ?_; rintro e w1 ⟨rfl, hb1⟩; obtain ⟨oc, of⟩ := old_cells hb1; have hz1 : w.heap.size + 1 < w1.heap.size := (by have := hb1.size; simp at this; omega); have HB1 := tuck hb1; clear hb1)
 have hx : w1.cell? ⟨w.heap.size, 2, none⟩ = some (.slice a l.length cap) := by rw [oc _ _ (by simp; omega)]; go_simp
 have hy : w1.cell? ⟨w.heap.size + 1, 2, none⟩ = some (.slice a' m.length cap') := by rw [oc _ _ (by simp)]; go_simp
 have HBX := tuck hx
 have HBY := tuck hy
 have HB0 := tuck (bAfter (below2 _ _ _) HB1.out)
 clear oc of hx hy HB1 HR
 go_loopw [13] (fun i wr => ∃ q : Nat, q ≤ l.length ∧ i = I6 q ∧ l.take q = m.take q ∧ Below w1.heap.size w1 wr) (fun i _ => l.length - (intOf i).toNat)
 case atStart => exact ⟨0, Nat.zero_le _, rfl, by simp, Below.refl _ _⟩
 case round =>
  obtain ⟨q, hq, rfl, ht, hb⟩ := hrel
  have hx : wr.cell? ⟨w.heap.size, 2, none⟩ = some (.slice a l.length cap) := (hb.cell (p := ⟨w.heap.size, 2, none⟩) (by show w.heap.size < _; omega)).trans HBX.out
  have hy : wr.cell? ⟨w.heap.size + 1, 2, none⟩ = some (.slice a' m.length cap') := (hb.cell (p := ⟨w.heap.size + 1, 2, none⟩) hz1).trans HBY.out
  by_cases hlt : q < l.length
  ·have hltm : q < m.length := by omega
   have hlti : ((q : Int) < (l.length : Int)) := by omega
   have hltj : ((q : Int) < (m.length : Int)) := by omega
   obtain ⟨rfl, _, hbw⟩ := HP.out (by intro e; rw [e] at hlt; simp at hlt)
   obtain ⟨rfl, _, hbw'⟩ := HP'.out (by intro e; rw [e] at hltm; simp at hltm)
   obtain ⟨s, c0, c1, c2, hs⟩ := HC.out q hlt
   obtain ⟨s', d0, d1, d2, hs'⟩ := HC'.out q hltm
   have hbb := bAfter HB0.out hb
   replace c0 := (hbb.cell (p := ⟨b, o + q * 3, none⟩) hbw).trans c0
   replace c1 := (hbb.cell (p := ⟨b, o + q * 3 + 1, none⟩) hbw).trans c1
   replace c2 := (hbb.cell (p := ⟨b, o + q * 3 + 2, none⟩) hbw).trans c2
   replace d0 := (hbb.cell (p := ⟨b', o' + q * 3, none⟩) hbw').trans d0
   replace d1 := (hbb.cell (p := ⟨b', o' + q * 3 + 1, none⟩) hbw').trans d1
   replace d2 := (hbb.cell (p := ⟨b', o' + q * 3 + 2, none⟩) hbw').trans d2
   have HB := tuck hb
   have HBB := tuck hbb
   have HT := tuck ht
   have HS := tuck hs
   have HS' := tuck hs'
   have HI' := tuck (HI.out q hlt)
   clear hb hbb ht hs hs' HI
   generalize hx1 : l[q] = x at *
   generalize hy1 : m[q] = y at *
   have HX := tuck hx1
   have HY := tuck hy1
   clear hx1 hy1
   go_wp2_with fail
   go_still_tail 10, (by kernel_rfl)
   change wpList _ _ _ _ _ wr.drew
   go_wp2_with (go_at_call 52; refine (HI'.out x.kind x.num y _ _ _ (HS.out.below (HBB.out.drew)) ⟨s', rfl, HS'.out.below (HBB.out.drew)⟩).mono ?_; rintro e w' ⟨rfl, hb'⟩)
   ·go_ret
    have h3 : same (.mk x.kind x.num x.kids) y = false := by simpa using ‹(!same (.mk x.kind x.num x.kids) y) = true›
    rw [Tm.eta, same_false, ← HX.out, ← HY.out] at h3
    exact ⟨ret_bool (same_false.2 fun e => h3 (by simp [e])).symm, HBB.out.drew.trans (hb'.mono HBB.out.size)⟩
   ·have h3 : same (.mk x.kind x.num x.kids) y = true := by simpa using ‹(!same (.mk x.kind x.num x.kids) y) = false›
    rw [Tm.eta, same_iff, ← HX.out, ← HY.out] at h3
    go_roundw
    case rel =>
     refine ⟨q + 1, by omega, by go_num, ?_, HB.out.drew.trans (hb'.mono HB.out.size)⟩
     rw [List.take_succ_eq_append_getElem hlt, List.take_succ_eq_append_getElem hltm, HT.out, h3]
    case measure => simp [intOf]; omega
  ·have hge2 : ¬ ((q : Int) < (l.length : Int)) := by omega
   have HBB := tuck (bAfter HB0.out hb)
   have HT := tuck ht
   clear hb ht
   go_wp2
   go_ret
   have hk : q = l.length := by omega
   have h3 := HT.out
   rw [hk] at h3
   exact ⟨ret_bool (same_iff.2 (take_all HL.out h3)).symm, HBB.out⟩
def sliceLen : Value → Nat | .slice _ n _ => n | _ => 0
set_option maxRecDepth 100000 in
theorem sameGraph_leaf (t u : Tm) (a a' : Option Addr) (c c' : Nat) (w : World) (h0 : t.kids.length = 0) : Calls Tryz.prog 53 #[.agg #[I6 t.kind, I6 t.num, .slice a t.kids.length c], .agg #[I6 u.kind, I6 u.num, .slice a' u.kids.length c']] w (BoolPost w (rootSame t u)) := by
 have HR := tuck (sameRoot_any t u a a' c c')
 have HZ := tuck h0
 have hz : ((t.kids.length : Int) == 0) = true := by simp [h0]
 clear h0
 generalize rootSame t u = r at *
 generalize t.kind = k1 at *
 generalize t.num = n1 at *
 generalize u.kind = k2 at *
 generalize u.num = n2 at *
 generalize t.kids.length = l1 at *
 generalize u.kids.length = l2 at *
 have hmm := @run_makeMap Tryz.prog
 go_enter Tryz.func53, Tryz.ntmps53
 go_wp2_with fail
 have hb0 : Below w.heap.size w ((((w.alloc (.cells #[I6 k1, I6 n1, .slice a l1 c] 34)).alloc (.cells #[I6 k2, I6 n2, .slice a' l2 c'] 34)).alloc (.map #[] 0)).alloc (.cells #[I6 k1, I6 n1, .slice a l1 c, I6 k2, I6 n2, .slice a' l2 c'] 124)) := (((below1 w _).alloc (by simp) _).alloc (by simp; omega) _).alloc (by simp; omega) _
 have q0 : ((((w.alloc (.cells #[I6 k1, I6 n1, .slice a l1 c] 34)).alloc (.cells #[I6 k2, I6 n2, .slice a' l2 c'] 34)).alloc (.map #[] 0)).alloc (.cells #[I6 k1, I6 n1, .slice a l1 c, I6 k2, I6 n2, .slice a' l2 c'] 124)).cell? ⟨w.heap.size + 1 + 1 + 1, 0, none⟩ = some (I6 k1) := by go_simp
 have q1 : ((((w.alloc (.cells #[I6 k1, I6 n1, .slice a l1 c] 34)).alloc (.cells #[I6 k2, I6 n2, .slice a' l2 c'] 34)).alloc (.map #[] 0)).alloc (.cells #[I6 k1, I6 n1, .slice a l1 c, I6 k2, I6 n2, .slice a' l2 c'] 124)).cell? ⟨w.heap.size + 1 + 1 + 1, 1, none⟩ = some (I6 n1) := by go_simp
 have q2 : ((((w.alloc (.cells #[I6 k1, I6 n1, .slice a l1 c] 34)).alloc (.cells #[I6 k2, I6 n2, .slice a' l2 c'] 34)).alloc (.map #[] 0)).alloc (.cells #[I6 k1, I6 n1, .slice a l1 c, I6 k2, I6 n2, .slice a' l2 c'] 124)).cell? ⟨w.heap.size + 1 + 1 + 1, 2, none⟩ = some (.slice a l1 c) := by go_simp
 have q3 : ((((w.alloc (.cells #[I6 k1, I6 n1, .slice a l1 c] 34)).alloc (.cells #[I6 k2, I6 n2, .slice a' l2 c'] 34)).alloc (.map #[] 0)).alloc (.cells #[I6 k1, I6 n1, .slice a l1 c, I6 k2, I6 n2, .slice a' l2 c'] 124)).cell? ⟨w.heap.size + 1 + 1 + 1, 3, none⟩ = some (I6 k2) := by go_simp
 have q4 : ((((w.alloc (.cells #[I6 k1, I6 n1, .slice a l1 c] 34)).alloc (.cells #[I6 k2, I6 n2, .slice a' l2 c'] 34)).alloc (.map #[] 0)).alloc (.cells #[I6 k1, I6 n1, .slice a l1 c, I6 k2, I6 n2, .slice a' l2 c'] 124)).cell? ⟨w.heap.size + 1 + 1 + 1, 4, none⟩ = some (I6 n2) := by go_simp
 have q5 : ((((w.alloc (.cells #[I6 k1, I6 n1, .slice a l1 c] 34)).alloc (.cells #[I6 k2, I6 n2, .slice a' l2 c'] 34)).alloc (.map #[] 0)).alloc (.cells #[I6 k1, I6 n1, .slice a l1 c, I6 k2, I6 n2, .slice a' l2 c'] 124)).cell? ⟨w.heap.size + 1 + 1 + 1, 5, none⟩ = some (.slice a' l2 c') := by go_simp
 generalize ((((w.alloc (.cells #[I6 k1, I6 n1, .slice a l1 c] 34)).alloc (.cells #[I6 k2, I6 n2, .slice a' l2 c'] 34)).alloc (.map #[] 0)).alloc (.cells #[I6 k1, I6 n1, .slice a l1 c, I6 k2, I6 n2, .slice a' l2 c'] 124)) = W0 at *
 have HB0 := tuck hb0
 have HQ := tuck (And.intro q0 (And.intro q1 (And.intro q2 (And.intro q3 (And.intro q4 q5)))))
 clear hb0 q0 q1 q2 q3 q4 q5 hmm
 go_loopw [6] (fun v wr => (v = .slice (some ⟨w.heap.size + 1 + 1 + 1, 0, none⟩) 1 1 ∧ wr = W0) ∨ (v = .slice (some ⟨w.heap.size + 1 + 1 + 1, 0, none⟩) 0 1 ∧ r = true ∧ Below w.heap.size w wr)) (fun v _ => sliceLen v)
 case atStart => exact Or.inl ⟨rfl, rfl⟩
 case round =>
  rcases hrel with ⟨rfl, rfl⟩ | ⟨rfl, hr, hb⟩
  ·obtain ⟨q0, q1, q2, q3, q4, q5⟩ := HQ.out
   go_wp2_with (go_at_call 88; refine (HR.out _).mono ?_; rintro e w1 ⟨rfl, hb1⟩; obtain ⟨oc, of⟩ := old_cells hb1; have hz1 : wr.heap.size < w1.heap.size := (by have := hb1.size; simp at this; omega); have HB1 := tuck hb1; clear hb1)
   ·go_ret
    have h : (!r) = true := by assumption
    have h2 : r = false := by simpa using h
    exact ⟨ret_bool h2.symm, bAfter (bAfter HB0.out (below1 _ _)) HB1.out⟩
   ·have h : (!r) = false := by assumption
    have h2 : r = true := by simpa using h
    have H2 := tuck h2
    clear h2
    go_roundw
    case rel => exact Or.inr ⟨rfl, H2.out, bAfter (bAfter HB0.out (below1 _ _)) HB1.out⟩
    case measure => simp [sliceLen]
  ·have HB := tuck hb
   have HRR := tuck hr
   clear hb hr
   go_wp2
   go_ret
   exact ⟨ret_bool HRR.out.symm, HB.out⟩
set_option maxRecDepth 100000 in
theorem termSame_any (t u : Tm) (w : World) (v1 v2 : Value) (ht : t.Valid ∨ t.kids = []) (h1 : TmIn w 0 t v1) (h2 : TmIn w 0 u v2) : Calls Tryz.prog 22 #[v1, v2] w (BoolPost w (same t u)) := by
 obtain ⟨s1, rfl, h1⟩ := h1
 obtain ⟨s2, rfl, h2⟩ := h2
 obtain ⟨a, c, rfl⟩ := h1.form
 obtain ⟨a', c', rfl⟩ := h2.form
 have H1 := tuck h1
 have H2 := tuck h2
 have HV : Hid (∀ (w : World), SlIn w 0 t.kids (.slice a t.kids.length c) → Calls Tryz.prog 51 #[.agg #[I6 t.kind, I6 t.num, .slice a t.kids.length c]] w (BoolPost w (tr t.Valid))) := fun w h => validI_any t w _ ⟨_, rfl, h⟩
 clear h1 h2
 by_cases hv : t.Valid
 ·rw [tr_of hv] at HV
  have HT : Hid (∀ (w : World), SlIn w 0 t.kids (.slice a t.kids.length c) → SlIn w 0 u.kids (.slice a' u.kids.length c') → Calls Tryz.prog 52 #[.agg #[I6 t.kind, I6 t.num, .slice a t.kids.length c], .agg #[I6 u.kind, I6 u.num, .slice a' u.kids.length c']] w (BoolPost w (same t u))) := fun w h g => by
   have := sameTree_any t.kids t.kind t.num u w _ _ h ⟨_, rfl, g⟩
   rwa [Tm.eta] at this
  clear ht hv
  generalize same t u = r at *
  go_enter Tryz.func22, Tryz.ntmps22
  go_wp2_with (first | (go_at_call 51; refine (HV.out _ (H1.out.below (below2 _ _ _))).mono ?_; rintro e w1 ⟨rfl, hb1⟩; obtain ⟨oc, of⟩ := old_cells hb1; have HB1 := tuck hb1; clear hb1) | (go_at_call 52; refine (HT.out _ (H1.out.below (bAfter (below2 _ _ _) HB1.out)) (H2.out.below (bAfter (below2 _ _ _) HB1.out))).mono ?_; rintro e w2 ⟨rfl, hb2⟩))
  go_ret
  exact ⟨rfl, bAfter (bAfter (below2 _ _ _) HB1.out) hb2⟩
 ·rw [tr_not hv] at HV
  have hk : t.kids = [] := ht.resolve_left hv
  have HG : Hid (∀ (w : World), Calls Tryz.prog 53 #[.agg #[I6 t.kind, I6 t.num, .slice a t.kids.length c], .agg #[I6 u.kind, I6 u.num, .slice a' u.kids.length c']] w (BoolPost w (same t u))) := fun w => by
   have h := sameGraph_leaf t u a a' c c' w (by rw [hk]; rfl)
   have e : rootSame t u = same t u := by
    rw [same_root, Bool.eq_iff_iff]
    simp only [Bool.and_eq_true, same_iff, rootSame, tr_iff]
    exact ⟨fun h => ⟨h, by rw [hk] at h ⊢; exact (List.length_eq_zero_iff.1 (by have := h.2.2; simpa using this.symm)).symm⟩, fun h => h.1⟩
   rwa [e] at h
  clear ht hv hk
  generalize same t u = r at *
  go_enter Tryz.func22, Tryz.ntmps22
  go_wp2_with (first | (go_at_call 51; refine (HV.out _ (H1.out.below (below2 _ _ _))).mono ?_; rintro e w1 ⟨rfl, hb1⟩; obtain ⟨oc, of⟩ := old_cells hb1; have HB1 := tuck hb1; clear hb1) | (go_at_call 53; refine (HG.out _).mono ?_; rintro e w2 ⟨rfl, hb2⟩))
  go_ret
  exact ⟨rfl, bAfter (bAfter (below2 _ _ _) HB1.out) hb2⟩
end Go.Proofs.YtpddjebdncaceaaGreat
