/-
  Lists of names: the model's NamesValid and FreshName.
-/
import Derived.Test.YtfnfbpdhploknaaNamesB
namespace Go.Proofs.Ytfnfbpdhploknaa
open Go.RowKit

theorem belowDr {B : Nat} {a w : World} (h : Below B a w) (n : Nat) : Below B a (w.drewN n) := ⟨h.os, h.tape, h.output, h.size, h.block⟩

def fint : Option Nat → Int
  | some n => n
  | none => -1

set_option maxRecDepth 100000 in
theorem findS_any (s : ByteArray) (c : Int) (w : World) (hs : s.size ≤ maxLen) : Calls Try.prog 18 #[.string s, .int .u8 c] w (SameW w (.int .i64 (fint (nfind (bl s s.size) c)))) := by
  unfold maxLen at hs
  have HP : Hid (∀ o v, o = nfind (bl s s.size) c → v = fint o → SameW w (.int .i64 (fint (nfind (bl s s.size) c))) (.returned (.int .i64 v)) w) := tuck fun o v h1 h2 => by rw [h2, h1]; exact ⟨rfl, rfl⟩
  generalize SameW w (.int .i64 (fint (nfind (bl s s.size) c))) = post at *
  go_enter Try.func18, Try.ntmps18
  go_wp2_with fail
  go_loop [5] (fun i => ∃ q : Int, i = .int .i64 q ∧ -1 ≤ q ∧ q < s.size ∧ nfind (bl s s.size) c = (nfind (bl s (q + 1).toNat) c).map (· + (s.size - (q + 1).toNat))) (fun i => (intOf i + 1).toNat)
  case atStart => exact ⟨(s.size : Int) - 1, rfl, by omega, by omega, by
    have : ((s.size : Int) - 1 + 1).toNat = s.size := by omega
    rw [this]; simp⟩
  case round =>
    obtain ⟨q, rfl, hq0, hq1, he⟩ := hrel
    have HE := tuck he
    clear he
    by_cases h0 : 0 ≤ q
    · obtain ⟨p, rfl⟩ : ∃ p : Nat, q = p := ⟨q.toNat, by omega⟩
      have hlt : p < s.size := by omega
      have ht : decide ((0 : Int) ≤ (p : Int)) = true := decide_eq_true (by omega)
      have HBL : Hid (bl s (p + 1) = (s[p].toNat : Int) :: bl s p) := tuck (by rw [bl, dif_pos hlt])
      have HE2 : Hid (nfind (bl s s.size) c = (nfind (bl s (p + 1)) c).map (· + (s.size - (p + 1)))) := tuck (by
        have := HE.out
        have e : ((p : Int) + 1).toNat = p + 1 := by omega
        rw [e] at this
        exact this)
      clear HE
      generalize hxe : (s[p].toNat : Int) = x at *
      have HXE := tuck hxe
      by_cases hx : x = c
      · have hxb : ((s[p].toNat : Int) == c) = true := by rw [hxe]; simpa using hx
        have HR : Hid (nfind (bl s s.size) c = some (s.size - (p + 1))) := tuck (by rw [HE2.out, HBL.out, nfind, if_pos hx]; simp)
        clear hxe hx
        go_wp2_with fail
        exact HP.out _ _ HR.out.symm (by show _ = ((s.size - (p + 1) : Nat) : Int); omega)
      · have hxb : ((s[p].toNat : Int) == c) = false := by rw [hxe]; simpa using hx
        have HR : Hid (nfind (bl s s.size) c = (nfind (bl s p) c).map (· + (s.size - p))) := tuck (by
          rw [HE2.out, HBL.out, nfind, if_neg hx, Option.map_map]
          congr 1
          funext m
          simp; omega)
        clear hxe hx
        go_wp2_with fail
        go_round
        case rel => exact ⟨(p : Int) - 1, rfl, by omega, by omega, by
          have e : ((p : Int) - 1 + 1).toNat = p := by omega
          rw [e]; exact HR.out⟩
        case measure => (simp [intOf]; try omega)
    · obtain rfl : q = -1 := by omega
      have HR : Hid (nfind (bl s s.size) c = none) := tuck (by rw [HE.out]; rfl)
      clear HE
      go_wp2_with fail
      exact HP.out none _ HR.out.symm rfl

set_option maxRecDepth 100000 in
theorem namesValidS_any (s : ByteArray) (w : World) (hs : s.size ≤ maxLen) : Calls Try.prog 11 #[.string s] w (fun e w' => e = .returned (.bool (nameOk s)) ∧ Below w.heap.size w w') := by
  have HN : Hid (∀ v w', v = nameOk s → Below w.heap.size w w' → (fun e w' => e = .returned (.bool (nameOk s)) ∧ Below w.heap.size w w') (Ending.returned (.bool v)) w') := tuck fun v w' h hb => by rw [h]; exact ⟨rfl, hb⟩
  have HS := tuck hs
  unfold maxLen at hs
  generalize hpost : (fun e w' => e = .returned (.bool (nameOk s)) ∧ Below w.heap.size w w' : Ending → World → Prop) = post at *
  clear hpost
  go_enter Try.func11, Try.ntmps11
  go_wp2_with fail
  go_loopw [3] (fun i wr => ∃ k : Nat, i = .int .i64 k ∧ k ≤ s.size ∧ good (bl s k) = true ∧ Below w.heap.size w wr) (fun i _ => s.size - (intOf i).toNat)
  case atStart => exact ⟨0, rfl, Nat.zero_le _, rfl, Below.refl _ _⟩
  case round =>
    obtain ⟨k, rfl, hk, hg, hb⟩ := hrel
    have HG := tuck hg
    have HB := tuck hb
    clear hg hb
    by_cases hlt : k < s.size
    · have hlti : decide ((k : Int) < (s.size : Int)) = true := decide_eq_true (by omega)
      have hlti2 : (k : Int) < (s.size : Int) := by omega
      have hlti3 : (k : Int) ≤ (s.size : Int) := by omega
      have hx0 : (0 : Int) ≤ (s[k].toNat : Int) := by omega
      have hx1 : (s[k].toNat : Int) ≤ 255 := by have := s[k].toNat_lt; omega
      have HBL : Hid (bl s (k + 1) = (s[k].toNat : Int) :: bl s k) := tuck (by rw [bl, dif_pos hlt])
      have HGN : Hid (good (bl s (k + 1)) = false → nameOk s = false) := tuck fun h => by
        unfold nameOk
        cases hgg : good (bl s s.size) with
        | false => rfl
        | true => rw [good_bl (i := k + 1) (by omega) hgg] at h; cases h
      have HGG : Hid (good (bl s (k + 1)) = (ltr (s[k].toNat : Int) && (nfind (bl s k) (s[k].toNat : Int)).isNone)) := tuck (by rw [HBL.out, good, HG.out, Bool.true_and])
      have HFI : Hid (∀ w, Calls Try.prog 18 #[.string (s.extract 0 k), .int .u8 (s[k].toNat : Int)] w (SameW w (.int .i64 (fint (nfind (bl s k) (s[k].toNat : Int)))))) := tuck fun w => by
        have h := findS_any (s.extract 0 k) (s[k].toNat : Int) w (by rw [ByteArray.size_extract]; have := HS.out; omega)
        have hz : (s.extract 0 k).size = k := by rw [ByteArray.size_extract]; omega
        rw [hz, bl_extract s k (by omega) k (Nat.le_refl _)] at h
        exact h
      have HLT : Hid (∀ w, Calls Try.prog 17 #[.int .u8 (s[k].toNat : Int)] w (SameW w (.bool (ltr (s[k].toNat : Int))))) := tuck fun w => letter_any _ w hx0 hx1
      cases hl : ltr (s[k].toNat : Int) with
      | false =>
        rw [hl] at HLT
        have HNO := tuck (HGN.out (by rw [HGG.out, hl]; simp))
        clear hl HFI HGG HBL
        go_wp2_with fail
        go_quiet ((go_at_call 17; exact Calls.quiet_of_same (HLT.out _)))
        go_wp2_with fail
        exact HN.out _ _ HNO.out.symm (belowDr HB.out _)
      | true =>
        rw [hl] at HLT
        cases hn : nfind (bl s k) (s[k].toNat : Int) with
        | some m =>
          have HNO := tuck (HGN.out (by rw [HGG.out, hn]; simp))
          rw [hn] at HFI
          have hm0 : decide ((0 : Int) ≤ (m : Int)) = true := decide_eq_true (by omega)
          simp only [fint] at HFI
          clear hl hn HGG HBL
          go_wp2_with fail
          go_quiet (first | (go_at_call 17; exact Calls.quiet_of_same (HLT.out _)) | (go_at_call 18; exact Calls.quiet_of_same (HFI.out _)))
          go_wp2_with fail
          exact HN.out _ _ HNO.out.symm (belowDr HB.out _)
        | none =>
          have HGO : Hid (good (bl s (k + 1)) = true) := tuck (by rw [HGG.out, hl, hn]; rfl)
          rw [hn] at HFI
          simp only [fint] at HFI
          clear hl hn HGG HBL
          go_wp2_with fail
          go_quiet (first | (go_at_call 17; exact Calls.quiet_of_same (HLT.out _)) | (go_at_call 18; exact Calls.quiet_of_same (HFI.out _)))
          go_wp2_with fail
          go_roundw
          case rel => exact ⟨k + 1, by go_num, by omega, HGO.out, belowDr HB.out _⟩
          case measure => simp [intOf]; omega
    · have hlti : decide ((k : Int) < (s.size : Int)) = false := decide_eq_false (by omega)
      obtain rfl : k = s.size := by omega
      have HOK : Hid (nameOk s = decide (s.size ≤ 20)) := tuck (by unfold nameOk; rw [HG.out, Bool.true_and])
      by_cases h20 : s.size ≤ 20
      · have h20' : decide ((s.size : Int) ≤ 20) = true := decide_eq_true (by omega)
        go_wp2_with fail
        exact HN.out _ _ (by rw [HOK.out, decide_eq_true h20]) HB.out
      · have h20' : decide ((s.size : Int) ≤ 20) = false := decide_eq_false (by omega)
        go_wp2_with fail
        exact HN.out _ _ (by rw [HOK.out, decide_eq_false h20]) HB.out

def frByte (k : Nat) : Int := if k < 26 then 97 + k else 0

set_option maxRecDepth 100000 in
theorem freshS_any (s : ByteArray) (w : World) (hs : s.size ≤ maxLen) : Calls Try.prog 16 #[.string s] w (SameW w (.int .u8 (frByte (freshN (bl s s.size))))) := by
  have HP : Hid (∀ v, v = frByte (freshN (bl s s.size)) → SameW w (.int .u8 (frByte (freshN (bl s s.size)))) (.returned (.int .u8 v)) w) := tuck fun v h => by rw [h]; exact ⟨rfl, rfl⟩
  generalize SameW w (.int .u8 (frByte (freshN (bl s s.size)))) = post at *
  have HF := tuck fun c => findS_any s c w hs
  clear hs
  go_enter Try.func16, Try.ntmps16
  go_wp2_with fail
  go_loop [3] (fun n => ∃ k : Nat, n = .int .u8 (97 + (k : Int)) ∧ k ≤ 26 ∧ ∀ j, j < k → (nfind (bl s s.size) (97 + j)).isNone = false) (fun n => 200 - (intOf n).toNat)
  case atStart => exact ⟨0, rfl, Nat.zero_le _, fun j h => by omega⟩
  case round =>
    obtain ⟨k, rfl, hk, hu⟩ := hrel
    have HU := tuck hu
    clear hu
    by_cases h26 : k < 26
    · have hle : decide (97 + (k : Int) ≤ 122) = true := decide_eq_true (by omega)
      have hle2 : (97 + (k : Int) ≤ 122) := by omega
      go_wp2_with fail
      refine (HF.out _).mono ?_
      rintro e w1 ⟨rfl, rfl⟩
      cases hn : nfind (bl s s.size) (97 + (k : Int)) with
      | none =>
        have HN : Hid (freshN (bl s s.size) = k) := tuck (freshN_of (by omega) HU.out fun _ => by rw [hn]; rfl)
        clear hn
        simp only [fint]
        go_wp2_with fail
        exact HP.out _ (by rw [HN.out]; unfold frByte; rw [if_pos h26])
      | some m =>
        have HN : Hid ((nfind (bl s s.size) (97 + (k : Int))).isNone = false) := tuck (by rw [hn]; rfl)
        clear hn
        simp only [fint]
        have hm0 : decide ((m : Int) < (0 : Int)) = false := decide_eq_false (by omega)
        go_wp2_with fail
        go_round
        case rel =>
          refine ⟨k + 1, by go_num, by omega, fun j hj => ?_⟩
          rcases Nat.lt_or_ge j k with e | e
          · exact HU.out j e
          · obtain rfl : j = k := by omega
            exact HN.out
        case measure => simp [intOf]; omega
    · obtain rfl : k = 26 := by omega
      have HN : Hid (freshN (bl s s.size) = 26) := tuck (freshN_of (by omega) HU.out fun h => by omega)
      have hle : decide (97 + ((26 : Nat) : Int) ≤ 122) = false := by decide
      go_wp2_with fail
      exact HP.out _ (by rw [HN.out]; rfl)

set_option maxRecDepth 100000 in
theorem freshNameS_any (s : ByteArray) (w : World) (hs : s.size ≤ maxLen) : Calls Try.prog 9 #[.string s] w (FrPost s w) := by
  have HN : Hid (∀ w', nameOk s = false → Below w.heap.size w w' → FrPost s w (.returned (.tuple #[.string (ByteArray.mk #[]), .bool false])) w') := tuck fun w' h hb => ⟨by rw [h]; rfl, hb⟩
  have HY : Hid (∀ k w', nameOk s = true → k = freshN (bl s s.size) → Below w.heap.size w w' → FrPost s w (.returned (.tuple #[.string (nameT k), .bool true])) w') := tuck fun k w' h hk hb => ⟨by rw [if_pos h, hk], hb⟩
  generalize FrPost s w = post at *
  have HV := tuck (namesValidS_any s w hs)
  have HFS := tuck fun w => freshS_any s w hs
  cases hk : nameOk s with
  | false =>
    rw [hk] at HV
    have HK := tuck hk
    clear hk
    go_enter Try.func9, Try.ntmps9
    go_wp2_with fail
    refine HV.out.mono ?_
    rintro e w1 ⟨rfl, hb⟩
    have HB := tuck hb
    clear hb
    go_wp2_with fail
    exact HN.out _ HK.out HB.out
  | true =>
    rw [hk] at HV
    have hlt := nameOk_fresh hk
    replace HY := tuck fun w' => HY.out _ w' hk rfl
    clear hk HN
    generalize freshN (bl s s.size) = k at *
    rw [show frByte k = 97 + (k : Int) by unfold frByte; rw [if_pos hlt]] at HFS
    go_enter Try.func9, Try.ntmps9
    go_wp2_with fail
    refine HV.out.mono ?_
    rintro e w1 ⟨rfl, hb⟩
    have HB := tuck hb
    have hcv := nbyte_text (97 + k) (by omega) w1
    rw [show ((97 + k : Nat) : Int) = 97 + (k : Int) by omega, show ByteArray.mk #[UInt8.ofNat (97 + k)] = nameT k from rfl] at hcv
    generalize nameT k = nt at *
    clear hb
    go_wp2_with fail
    refine (HFS.out _).mono ?_
    rintro e w2 ⟨rfl, rfl⟩
    go_wp2_with fail
    exact HY.out _ (HB.out.alloc HB.out.size _)
end Go.Proofs.Ytfnfbpdhploknaa
