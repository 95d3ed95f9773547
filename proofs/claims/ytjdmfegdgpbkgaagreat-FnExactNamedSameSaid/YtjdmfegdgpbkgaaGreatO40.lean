/-
  NamesB.
-/
import Derived.Test.YtjdmfegdgpbkgaaGreatO32
namespace Go.Proofs.YtjdmfegdgpbkgaaGreat
open Go.RowKit
theorem bytes_new (s : ByteArray) (w : World) : ∃ (cap : Nat) (W1 : World), (convert 9 22 (.string s)).run Tryz.prog w = .ok (.slice (some ⟨w.heap.size, 0, none⟩) s.size cap) W1 ∧
  (∀ i (h : i < s.size), W1.cell? ⟨w.heap.size, i, none⟩ = some (.int .u8 (s[i].toNat : Int))) ∧ Below w.heap.size w W1 ∧ w.heap.size < W1.heap.size := by
 refine ⟨_, _, run_bytes_of_string w 9 22 5 s Tryz.underlying9 Tryz.underlying22 Tryz.underlying5, fun i h => ?_, ((Below.refl _ _).drew).alloc (Nat.le_refl _) _, by simp⟩
 show (w.drew.alloc _).cell? ⟨w.drew.heap.size, i, none⟩ = _
 rw [World.cell?_alloc_mark]
 exact bytesRow_at s _ i h
def NFPost (s : ByteArray) (w : World) (e : Ending) (w' : World) : Prop := Below w.heap.size w w' ∧ ∃ q, e = .returned (.tuple #[.pointer q, .bool (nameOk s)]) ∧ (nameOk s = true → NL w' (bl s s.size) (.pointer q))
set_option maxRecDepth 100000 in
theorem namesFrom_any (s : ByteArray) (w : World) (hs : s.size ≤ maxLen) : Calls Tryz.prog 48 #[.string s] w (NFPost s w) := by
 unfold maxLen at hs
 have HN : Hid (∀ w', nameOk s = false → Below w.heap.size w w' → NFPost s w (.returned (.tuple #[.pointer none, .bool false])) w') := tuck fun w' h hb => ⟨hb, none, by rw [h], fun g => by rw [h] at g; cases g⟩
 have HY : Hid (∀ q w', nameOk s = true → Below w.heap.size w w' → NL w' (bl s s.size) (.pointer q) → NFPost s w (.returned (.tuple #[.pointer q, .bool true])) w') := tuck fun q w' h hb hn => ⟨hb, q, by rw [h], fun _ => hn⟩
 generalize NFPost s w = post at *
 by_cases h20 : 20 < s.size
 ·have h20' : (20 : Int) < (s.size : Int) := by omega
  replace HN := tuck (HN.out w (by unfold nameOk; simp; omega) (Below.refl _ _))
  clear HY
  go_enter Tryz.func48, Tryz.ntmps48
  go_wp2_with fail
  exact HN.out
 have h20' : ¬ (20 : Int) < (s.size : Int) := by omega
 have HSZ := tuck (show s.size ≤ 20 by omega)
 obtain ⟨cap, W1, hcv, hcells, hb1, hz1⟩ := bytes_new s w
 have HC := tuck hcells
 have HB1 := tuck hb1
 have HZ1 := tuck hz1
 clear hcells hb1 hz1 h20
 go_enter Tryz.func48, Tryz.ntmps48
 go_wp2_with fail
 clear hcv
 go_loopw [4, 15] (fun l i wr => ∃ (q : Option Addr) (k : Nat), l = .pointer q ∧ i = .int .i64 k ∧ k ≤ s.size ∧ good (bl s k) = true ∧ NL wr (bl s k) (.pointer q) ∧ Below W1.heap.size W1 wr) (fun _ i _ => 1000 - (intOf i).toNat)
 case atStart => exact ⟨none, 0, rfl, rfl, Nat.zero_le _, rfl, rfl, Below.refl _ _⟩
 case round =>
  obtain ⟨q, k, rfl, rfl, hk, hg, hnl, hb⟩ := hrel
  have HG := tuck hg
  have HNL := tuck hnl
  have HB := tuck hb
  clear hg hnl hb
  have hk20 : k ≤ 20 := by have := HSZ.out; omega
  by_cases hlt : k < s.size
  ·have hlti : decide ((k : Int) < (s.size : Int)) = true := decide_eq_true (by omega)
   have hlti2 : (k : Int) < (s.size : Int) := by omega
   have hcell : wr.cell? ⟨w.heap.size, k, none⟩ = some (.int .u8 (s[k].toNat : Int)) := (HB.out.cell (p := ⟨w.heap.size, k, none⟩) HZ1.out).trans (HC.out k hlt)
   have hx0 : (0 : Int) ≤ (s[k].toNat : Int) := by omega
   have hx1 : (s[k].toNat : Int) ≤ 255 := by have := s[k].toNat_lt; omega
   have HBL : Hid (bl s (k + 1) = (s[k].toNat : Int) :: bl s k) := tuck (by rw [bl, dif_pos hlt])
   generalize hxe : (s[k].toNat : Int) = x at *
   clear hxe
   have HGN : Hid (good (bl s (k + 1)) = false → nameOk s = false) := tuck fun h => by
    unfold nameOk
    cases hgg : good (bl s s.size) with
    | false => rfl
    | true => rw [good_bl (i := k + 1) (by omega) hgg] at h; cases h
   have HGG : Hid (good (bl s (k + 1)) = (ltr x && (nfind (bl s k) x).isNone)) := tuck (by rw [HBL.out, good, HG.out, Bool.true_and])
   go_wp2_with fail
   refine (find_any (bl s k) x q wr (by rw [bl_length]; omega) HNL.out).mono ?_
   rintro e w1 ⟨rfl, rfl⟩
   cases hn : nfind (bl s k) x with
   | some m =>
    have HNO := tuck (HGN.out (by rw [HGG.out, hn]; simp))
    clear hn
    simp only [fpair]
    go_wp2_with fail
    exact HN.out _ HNO.out (bAfter HB1.out HB.out)
   | none =>
    simp only [fpair]
    cases hl : ltr x with
    | false =>
     have HNO := tuck (HGN.out (by rw [HGG.out, hl]; simp))
     have HL := tuck hl
     clear hn hl
     go_wp2_with (go_at_call 79; refine (isName_any _ _ hx0 hx1).mono ?_; rintro e w1 ⟨rfl, rfl⟩; rw [HL.out])
     exact HN.out _ HNO.out (bAfter HB1.out HB.out)
    | true =>
     have HGO : Hid (good (bl s (k + 1)) = true) := tuck (by rw [HGG.out, hl, hn]; rfl)
     have HL := tuck hl
     clear hn hl
     go_wp2_with (first | (go_at_call 79; refine (isName_any _ _ hx0 hx1).mono ?_; rintro e w1 ⟨rfl, rfl⟩; rw [HL.out]) | (go_at_call 80; refine (with_any (bl s k) _ _ _).mono ?_; rintro e w1 ⟨rfl, rfl⟩))
     go_roundw
     case rel => exact ⟨_, k + 1, rfl, by go_num, by omega, HGO.out, by rw [HBL.out]; exact HNL.out.cons, HB.out.alloc HB.out.size _⟩
     case measure => simp [intOf]; omega
  ·have hlti : decide ((k : Int) < (s.size : Int)) = false := decide_eq_false (by omega)
   have hlti2 : ¬ (k : Int) < (s.size : Int) := by omega
   obtain rfl : k = s.size := by omega
   have HOK : Hid (nameOk s = true) := tuck (by unfold nameOk; rw [HG.out]; simp; exact HSZ.out)
   go_wp2_with fail
   exact HY.out q _ HOK.out (bAfter HB1.out HB.out) HNL.out
end Go.Proofs.YtjdmfegdgpbkgaaGreat
