/-
  NamesS.
-/
import Derived.Test.YtjdmfegdgpbkgaaGreatO40
namespace Go.Proofs.YtjdmfegdgpbkgaaGreat
open Go.RowKit
theorem belowDr {B : Nat} {a w : World} (h : Below B a w) (n : Nat) : Below B a (w.drewN n) := ⟨h.os, h.tape, h.output, h.size, h.block⟩
def fint : Option Nat → Int
 | some n => n
 | none => -1
set_option maxRecDepth 100000 in
theorem findS_any (s : ByteArray) (c : Int) (w : World) (hs : s.size ≤ maxLen) : Calls Tryz.prog 73 #[.string s, .int .u8 c] w (SameW w (.int .i64 (fint (nfind (bl s s.size) c)))) := by
 unfold maxLen at hs
 have HP : Hid (∀ o v, o = nfind (bl s s.size) c → v = fint o → SameW w (.int .i64 (fint (nfind (bl s s.size) c))) (.returned (.int .i64 v)) w) := tuck fun o v h1 h2 => by rw [h2, h1]; exact ⟨rfl, rfl⟩
 generalize SameW w (.int .i64 (fint (nfind (bl s s.size) c))) = post at *
 go_enter Tryz.func73, Tryz.ntmps73
 go_wp2_with fail
 go_loop [5] (fun i => ∃ q : Int, i = .int .i64 q ∧ -1 ≤ q ∧ q < s.size ∧ nfind (bl s s.size) c = (nfind (bl s (q + 1).toNat) c).map (· + (s.size - (q + 1).toNat))) (fun i => (intOf i + 1).toNat)
 case atStart => exact ⟨(s.size : Int) - 1, rfl, by omega, by omega, by
  have : ((s.size : Int) - 1 + 1).toNat = s.size := by omega
  rw [this]; simp⟩
 case round =>
  obtain ⟨q, rfl, hq0, hq1, he⟩ := hrel
  have HE := tuck he
  clear he
  by_cases h0 : 0 ≤ q
  ·obtain ⟨p, rfl⟩ : ∃ p : Nat, q = p := ⟨q.toNat, by omega⟩
   have hlt : p < s.size := by omega
   have ht : decide ((0 : Int) ≤ (p : Int)) = true := decide_eq_true (by omega)
   have HBL : Hid (bl s (p + 1) = (s[p].toNat : Int) :: bl s p) := tuck (by rw [bl, dif_pos hlt])
   have HE2 : Hid (nfind (bl s s.size) c = (nfind (bl s (p + 1)) c).map (· + (s.size - (p + 1)))) := tuck (by
    have := HE.out
    have e : ((p : Int) + 1).toNat = p + 1 := by omega
    rw [e] at this
    exact this)
   clear HE
   generalize hxe : (s[p].toNat : Int) = x at *
   have HXE := tuck hxe
   by_cases hx : x = c
   ·have hxb : ((s[p].toNat : Int) == c) = true := by rw [hxe]; simpa using hx
    have HR : Hid (nfind (bl s s.size) c = some (s.size - (p + 1))) := tuck (by rw [HE2.out, HBL.out, nfind, if_pos hx]; simp)
    clear hxe hx
    go_wp2_with fail
    exact HP.out _ _ HR.out.symm (by show _ = ((s.size - (p + 1) : Nat) : Int); omega)
   ·have hxb : ((s[p].toNat : Int) == c) = false := by rw [hxe]; simpa using hx
    have HR : Hid (nfind (bl s s.size) c = (nfind (bl s p) c).map (· + (s.size - p))) := tuck (by
     rw [HE2.out, HBL.out, nfind, if_neg hx, Option.map_map]
     congr 1
     funext m
     simp; omega)
    clear hxe hx
    go_wp2_with fail
    go_round
    case rel => exact ⟨(p : Int) - 1, rfl, by omega, by omega, by
     have e : ((p : Int) - 1 + 1).toNat = p := by omega
     rw [e]; exact HR.out⟩
    case measure => (simp [intOf]; try omega)
  ·obtain rfl : q = -1 := by omega
   have HR : Hid (nfind (bl s s.size) c = none) := tuck (by rw [HE.out]; rfl)
   clear HE
   go_wp2_with fail
   exact HP.out none _ HR.out.symm rfl
set_option maxRecDepth 100000 in
theorem namesValidS_any (s : ByteArray) (w : World) (hs : s.size ≤ maxLen) : Calls Tryz.prog 46 #[.string s] w (fun e w' => e = .returned (.bool (nameOk s)) ∧ Below w.heap.size w w') := by
 have HN : Hid (∀ v w', v = nameOk s → Below w.heap.size w w' → (fun e w' => e = .returned (.bool (nameOk s)) ∧ Below w.heap.size w w') (Ending.returned (.bool v)) w') := tuck fun v w' h hb => by rw [h]; exact ⟨rfl, hb⟩
 have HS := tuck hs
 unfold maxLen at hs
 generalize hpost : (fun e w' => e = .returned (.bool (nameOk s)) ∧ Below w.heap.size w w' : Ending → World → Prop) = post at *
 clear hpost
 go_enter Tryz.func46, Tryz.ntmps46
 go_wp2_with fail
 go_loopw [3] (fun i wr => ∃ k : Nat, i = .int .i64 k ∧ k ≤ s.size ∧ good (bl s k) = true ∧ Below w.heap.size w wr) (fun i _ => s.size - (intOf i).toNat)
 case atStart => exact ⟨0, rfl, Nat.zero_le _, rfl, Below.refl _ _⟩
 case round =>
  obtain ⟨k, rfl, hk, hg, hb⟩ := hrel
  have HG := tuck hg
  have HB := tuck hb
  clear hg hb
  by_cases hlt : k < s.size
  ·have hlti : decide ((k : Int) < (s.size : Int)) = true := decide_eq_true (by omega)
   have hlti2 : (k : Int) < (s.size : Int) := by omega
   have hlti3 : (k : Int) ≤ (s.size : Int) := by omega
   have hx0 : (0 : Int) ≤ (s[k].toNat : Int) := by omega
   have hx1 : (s[k].toNat : Int) ≤ 255 := by have := s[k].toNat_lt; omega
   have HBL : Hid (bl s (k + 1) = (s[k].toNat : Int) :: bl s k) := tuck (by rw [bl, dif_pos hlt])
   have HGN : Hid (good (bl s (k + 1)) = false → nameOk s = false) := tuck fun h => by
    unfold nameOk
    cases hgg : good (bl s s.size) with
    | false => rfl
    | true => rw [good_bl (i := k + 1) (by omega) hgg] at h; cases h
   have HGG : Hid (good (bl s (k + 1)) = (ltr (s[k].toNat : Int) && (nfind (bl s k) (s[k].toNat : Int)).isNone)) := tuck (by rw [HBL.out, good, HG.out, Bool.true_and])
   have HFI : Hid (∀ w, Calls Tryz.prog 73 #[.string (s.extract 0 k), .int .u8 (s[k].toNat : Int)] w (SameW w (.int .i64 (fint (nfind (bl s k) (s[k].toNat : Int)))))) := tuck fun w => by
    have h := findS_any (s.extract 0 k) (s[k].toNat : Int) w (by rw [ByteArray.size_extract]; have := HS.out; omega)
    have hz : (s.extract 0 k).size = k := by rw [ByteArray.size_extract]; omega
    rw [hz, bl_extract s k (by omega) k (Nat.le_refl _)] at h
    exact h
   have HLT : Hid (∀ w, Calls Tryz.prog 72 #[.int .u8 (s[k].toNat : Int)] w (SameW w (.bool (ltr (s[k].toNat : Int))))) := tuck fun w => letter_any _ w hx0 hx1
   cases hl : ltr (s[k].toNat : Int) with
   | false =>
    rw [hl] at HLT
    have HNO := tuck (HGN.out (by rw [HGG.out, hl]; simp))
    clear hl HFI HGG HBL
    go_wp2_with fail
    go_quiet ((go_at_call 72; exact Calls.quiet_of_same (HLT.out _)))
    go_wp2_with fail
    exact HN.out _ _ HNO.out.symm (belowDr HB.out _)
   | true =>
    rw [hl] at HLT
    cases hn : nfind (bl s k) (s[k].toNat : Int) with
    | some m =>
     have HNO := tuck (HGN.out (by rw [HGG.out, hn]; simp))
     rw [hn] at HFI
     have hm0 : decide ((0 : Int) ≤ (m : Int)) = true := decide_eq_true (by omega)
     simp only [fint] at HFI
     clear hl hn HGG HBL
     go_wp2_with fail
     go_quiet (first | (go_at_call 72; exact Calls.quiet_of_same (HLT.out _)) | (go_at_call 73; exact Calls.quiet_of_same (HFI.out _)))
     go_wp2_with fail
     exact HN.out _ _ HNO.out.symm (belowDr HB.out _)
    | none =>
     have HGO : Hid (good (bl s (k + 1)) = true) := tuck (by rw [HGG.out, hl, hn]; rfl)
     rw [hn] at HFI
     simp only [fint] at HFI
     clear hl hn HGG HBL
     go_wp2_with fail
     go_quiet (first | (go_at_call 72; exact Calls.quiet_of_same (HLT.out _)) | (go_at_call 73; exact Calls.quiet_of_same (HFI.out _)))
     go_wp2_with fail
     go_roundw
     case rel => exact ⟨k + 1, by go_num, by omega, HGO.out, belowDr HB.out _⟩
     case measure => simp [intOf]; omega
  ·have hlti : decide ((k : Int) < (s.size : Int)) = false := decide_eq_false (by omega)
   obtain rfl : k = s.size := by omega
   have HOK : Hid (nameOk s = decide (s.size ≤ 20)) := tuck (by unfold nameOk; rw [HG.out, Bool.true_and])
   by_cases h20 : s.size ≤ 20
   ·have h20' : decide ((s.size : Int) ≤ 20) = true := decide_eq_true (by omega)
    go_wp2_with fail
    exact HN.out _ _ (by rw [HOK.out, decide_eq_true h20]) HB.out
   ·have h20' : decide ((s.size : Int) ≤ 20) = false := decide_eq_false (by omega)
    go_wp2_with fail
    exact HN.out _ _ (by rw [HOK.out, decide_eq_false h20]) HB.out
end Go.Proofs.YtjdmfegdgpbkgaaGreat
