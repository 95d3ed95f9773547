/-
  CurP.
-/
import Derived.Test.YtpddjebdncaceaaF15
namespace Go.Proofs.Ytpddjebdncaceaa
set_option linter.unusedVariables false
def dg (s : ByteArray) (a : Nat) : Bool := decide (48 ≤ byteAt s a) && decide (byteAt s a ≤ 57)
theorem dg_lt {s : ByteArray} {a : Nat} (h : dg s a = true) : a < s.size := by
 unfold dg byteAt at h
 by_cases e : a < s.size
 ·exact e
 ·rw [dif_neg e] at h; simp at h
theorem byte_lt {s : ByteArray} {a b : Nat} (h : byteAt s a = b) (hb : b ≠ 0) : a < s.size := by
 unfold byteAt at h
 by_cases e : a < s.size
 ·exact e
 ·rw [dif_neg e] at h; omega
theorem ext_one {s : ByteArray} {a b : Nat} (h : byteAt s a = b) (hb : b ≠ 0) : s.extract a (a + 1) = ByteArray.mk #[UInt8.ofNat b] := by
 have hlt := byte_lt h hb
 rw [byteAt_eq hlt] at h
 apply ByteArray.ext
 apply Array.ext
 ·rw [ByteArray.data_extract]; simp; have : s.data.size = s.size := rfl; omega
 ·intro i h1 h2
  have hi : i = 0 := by simpa using h2
  subst hi
  have h3 : 0 < (s.extract a (a + 1)).size := by rw [ByteArray.size_extract]; omega
  have : (s.extract a (a + 1))[0] = s[a] := by rw [ByteArray.getElem_extract]; rfl
  show (s.extract a (a + 1))[0] = _
  rw [this]
  show s[a] = UInt8.ofNat b
  apply UInt8.toNat_inj.1
  rw [h]
  have := s[a].toNat_lt
  simp
  omega
def numLoop (s : ByteArray) (lim : Nat) : Nat → Nat → Nat → Nat × Nat
 | 0, n, a => (n, a)
 | f + 1, n, a => if dg s a = true ∧ n ≤ lim then numLoop s lim f (10 * n + (byteAt s a - 48)) (a + 1) else (n, a)
def numC (s : ByteArray) (lim a : Nat) : Option (Nat × Nat) :=
 if (numLoop s lim (s.size + 1 - a) 0 a).2 = a ∨ lim < (numLoop s lim (s.size + 1 - a) 0 a).1 ∨ (a + 1 < (numLoop s lim (s.size + 1 - a) 0 a).2 ∧ byteAt s a = 48) then none else some (numLoop s lim (s.size + 1 - a) 0 a)
theorem numLoop_ge (s : ByteArray) (lim : Nat) : ∀ f n a, a ≤ (numLoop s lim f n a).2
 | 0, n, a => Nat.le_refl _
 | f + 1, n, a => by
  rw [numLoop]
  split
  ·have := numLoop_ge s lim f (10 * n + (byteAt s a - 48)) (a + 1); omega
  ·exact Nat.le_refl _
theorem digRun_succ (s : ByteArray) (d a : Nat) : digRun s (d + 1) a = if dg s a = true then digRun s d (a + 1) + 1 else 0 := by
 rw [digRun]
 unfold dg byteAt
 by_cases h : a < s.size
 ·rw [dif_pos h, dif_pos h]
  by_cases h1 : 48 ≤ s[a].toNat ∧ s[a].toNat ≤ 57
  ·rw [if_pos h1, if_pos (by simpa using h1)]
  ·rw [if_neg h1, if_neg (by simpa using h1)]
 ·rw [dif_neg h, dif_neg h]; rfl
theorem digRun_one (s : ByteArray) (a : Nat) : digRun s 1 a = if dg s a = true then 1 else 0 := by
 rw [digRun_succ, digRun]
theorem digRun_two (s : ByteArray) (a : Nat) : digRun s 2 a = if dg s a = true then (if dg s (a + 1) = true then 2 else 1) else 0 := by
 rw [digRun_succ, digRun_one]
 by_cases h : dg s (a + 1) = true
 ·rw [if_pos h, if_pos h]
 ·rw [if_neg h, if_neg h]
theorem decOk_one {t : ByteArray} (h : t.size = 1) : decOk t = true := by unfold decOk; simp [h]
theorem decOk_nil {t : ByteArray} (h : t.size = 0) : ¬ decOk t = true := by unfold decOk; simp [h]
theorem ext_byte (s : ByteArray) (a r i : Nat) (hr : a + r ≤ s.size) (hi : i < r) (h : i < (s.extract a (a + r)).size) : (s.extract a (a + r))[i].toNat = byteAt s (a + i) := by
 rw [ByteArray.getElem_extract, byteAt_eq (show a + i < s.size by omega)]
theorem ext_size (s : ByteArray) (a r : Nat) (hr : a + r ≤ s.size) : (s.extract a (a + r)).size = r := by rw [ByteArray.size_extract]; omega
theorem ptNum_one (s : ByteArray) (a : Nat) : ptNum s a 1 = if dg s a = true then some (byteAt s a - 48, a + 1) else none := by
 unfold ptNum
 rw [digRun_one]
 by_cases h : dg s a = true
 ·have hlt := dg_lt h
  have hz := ext_size s a 1 (by omega)
  have h0 : (0 : Nat) < (s.extract a (a + 1)).size := by omega
  have hb := ext_byte s a 1 0 (by omega) (by omega) h0
  rw [if_pos h, if_pos h]
  have hok := decOk_one hz
  rw [if_pos hok, hz, decN, decN, dif_pos h0, hb]
  simp
 ·rw [if_neg h, if_neg h]
  have hz : (s.extract a (a + 0)).size = 0 := by rw [ByteArray.size_extract]; omega
  rw [if_neg (decOk_nil hz)]
theorem ptNum_two (s : ByteArray) (a : Nat) : ptNum s a 2 = if dg s a = true then (if dg s (a + 1) = true then (if byteAt s a = 48 then none else some ((byteAt s a - 48) * 10 + (byteAt s (a + 1) - 48), a + 2)) else some (byteAt s a - 48, a + 1)) else none := by
 unfold ptNum
 rw [digRun_two]
 by_cases h : dg s a = true
 ·have hlt := dg_lt h
  rw [if_pos h, if_pos h]
  by_cases h' : dg s (a + 1) = true
  ·have hlt' := dg_lt h'
   rw [if_pos h', if_pos h']
   have hz := ext_size s a 2 (by omega)
   have h0 : (0 : Nat) < (s.extract a (a + 2)).size := by omega
   have h1 : (1 : Nat) < (s.extract a (a + 2)).size := by omega
   have hb0 := ext_byte s a 2 0 (by omega) (by omega) h0
   have hb1 := ext_byte s a 2 1 (by omega) (by omega) h1
   have hok : decOk (s.extract a (a + 2)) = !(byteAt s a == 48) := by
    unfold decOk
    rw [dif_pos h0, hb0]
    simp [hz]
   rw [hok]
   by_cases e : byteAt s a = 48
   ·rw [if_pos e, e]; rfl
   ·rw [if_neg e, if_pos (by simpa using e), hz, decN, decN, decN, dif_pos h0, dif_pos h1, hb0, hb1]
    simp
  ·rw [if_neg h', if_neg h']
   have hz := ext_size s a 1 (by omega)
   have h0 : (0 : Nat) < (s.extract a (a + 1)).size := by omega
   have hb := ext_byte s a 1 0 (by omega) (by omega) h0
   have hok := decOk_one hz
   rw [if_pos hok, hz, decN, decN, dif_pos h0, hb]
   simp
 ·rw [if_neg h, if_neg h]
  have hz : (s.extract a (a + 0)).size = 0 := by rw [ByteArray.size_extract]; omega
  rw [if_neg (decOk_nil hz)]
theorem dg_iff {s : ByteArray} {a : Nat} : dg s a = true ↔ 48 ≤ byteAt s a ∧ byteAt s a ≤ 57 := by unfold dg; simp
theorem numC_none0 {s : ByteArray} {lim a : Nat} (h : dg s a = false) : numC s lim a = none := by
 have : (numLoop s lim (s.size + 1 - a) 0 a) = (0, a) := by
  cases s.size + 1 - a with
  | zero => rfl
  | succ f => rw [numLoop, if_neg (by rw [h]; simp)]
 unfold numC
 rw [this]
 simp
theorem numLoop_step {s : ByteArray} {lim n a : Nat} (h : dg s a = true) (hn : n ≤ lim) : numLoop s lim (s.size + 1 - a) n a = numLoop s lim (s.size + 1 - (a + 1)) (10 * n + (byteAt s a - 48)) (a + 1) := by
 have hlt := dg_lt h
 rw [show s.size + 1 - a = (s.size + 1 - (a + 1)) + 1 by omega, numLoop, if_pos ⟨h, hn⟩]
theorem numLoop_stop {s : ByteArray} {lim n a : Nat} (h : ¬ (dg s a = true ∧ n ≤ lim)) (f : Nat) : numLoop s lim f n a = (n, a) := by
 cases f with
 | zero => rfl
 | succ f => rw [numLoop, if_neg h]
theorem numC_20 (s : ByteArray) (a : Nat) (x : Nat × Nat) : numC s 20 a = some x ↔ ptNum s a 2 = some x ∧ x.1 ≤ 20 ∧ dg s x.2 = false := by
 rw [ptNum_two]
 cases h : dg s a with
 | false => rw [numC_none0 h]; simp
 | true =>
  have hd := dg_iff.1 h
  rw [if_pos rfl]
  have h1 := numLoop_step (lim := 20) (n := 0) h (by omega)
  have hge := numLoop_ge s 20 (s.size + 1 - (a + 1)) (10 * 0 + (byteAt s a - 48)) (a + 1)
  unfold numC
  cases h' : dg s (a + 1) with
  | false =>
   have h2 := numLoop_stop (s := s) (lim := 20) (n := 10 * 0 + (byteAt s a - 48)) (a := a + 1) (by rw [h']; simp) (s.size + 1 - (a + 1))
   rw [h2] at h1
   rw [h1]
   simp only [Nat.mul_zero, Nat.zero_add, Bool.false_eq_true, if_false]
   rw [if_neg (by omega)]
   simp only [Option.some.injEq]
   constructor
   ·rintro rfl; exact ⟨rfl, by dsimp only; omega, h'⟩
   ·rintro ⟨e, -⟩; exact e
  | true =>
   have hd' := dg_iff.1 h'
   have h2 := numLoop_step (lim := 20) (n := 10 * 0 + (byteAt s a - 48)) h' (by omega)
   rw [if_pos rfl]
   by_cases e : byteAt s a = 48
   ·rw [if_pos e, h1, h2]
    have hge' := numLoop_ge s 20 (s.size + 1 - (a + 1 + 1)) (10 * (10 * 0 + (byteAt s a - 48)) + (byteAt s (a + 1) - 48)) (a + 1 + 1)
    rw [if_pos (Or.inr (Or.inr ⟨by omega, e⟩))]
    simp
   ·rw [if_neg e]
    have e1 : 10 * (10 * 0 + (byteAt s a - 48)) + (byteAt s (a + 1) - 48) = (byteAt s a - 48) * 10 + (byteAt s (a + 1) - 48) := by omega
    rw [e1] at h2
    generalize hn : (byteAt s a - 48) * 10 + (byteAt s (a + 1) - 48) = n at *
    by_cases hn20 : n ≤ 20
    ·cases h'' : dg s (a + 1 + 1) with
     | false =>
      rw [numLoop_stop (s := s) (lim := 20) (n := n) (a := a + 1 + 1) (by rw [h'']; simp)] at h2
      rw [h1, h2, if_neg (by omega)]
      simp only [Option.some.injEq]
      constructor
      ·rintro rfl; exact ⟨rfl, hn20, h''⟩
      ·rintro ⟨e, -⟩; exact e
     | true =>
      have hd'' := dg_iff.1 h''
      have h3 := numLoop_step (lim := 20) h'' hn20
      rw [numLoop_stop (s := s) (lim := 20) (n := 10 * n + (byteAt s (a + 1 + 1) - 48)) (a := a + 1 + 1 + 1) (by omega)] at h3
      rw [h1, h2, h3, if_pos (by dsimp only; omega)]
      simp only [Option.some.injEq, reduceCtorEq, false_iff]
      rintro ⟨rfl, -, h4⟩
      dsimp only at h4
      rw [h''] at h4
      cases h4
    ·rw [numLoop_stop (s := s) (lim := 20) (n := n) (a := a + 1 + 1) (by omega)] at h2
     rw [h1, h2, if_pos (by dsimp only; omega)]
     simp only [Option.some.injEq, reduceCtorEq, false_iff]
     rintro ⟨rfl, h4, -⟩
     exact hn20 h4
theorem numC_3 (s : ByteArray) (a : Nat) (x : Nat × Nat) : numC s 3 a = some x ↔ ptNum s a 1 = some x ∧ x.1 ≤ 3 ∧ dg s x.2 = false := by
 rw [ptNum_one]
 cases h : dg s a with
 | false => rw [numC_none0 h]; simp
 | true =>
  have hd := dg_iff.1 h
  rw [if_pos rfl]
  have h1 := numLoop_step (lim := 3) (n := 0) h (by omega)
  have e0 : 10 * 0 + (byteAt s a - 48) = byteAt s a - 48 := by omega
  rw [e0] at h1
  unfold numC
  by_cases h3 : byteAt s a - 48 ≤ 3
  ·cases h' : dg s (a + 1) with
   | false =>
    rw [numLoop_stop (s := s) (lim := 3) (n := byteAt s a - 48) (a := a + 1) (by rw [h']; simp)] at h1
    rw [h1, if_neg (by dsimp only; omega)]
    simp only [Option.some.injEq]
    constructor
    ·rintro rfl; exact ⟨rfl, h3, h'⟩
    ·rintro ⟨e, -⟩; exact e
   | true =>
    have hd' := dg_iff.1 h'
    have h2 := numLoop_step (lim := 3) h' h3
    by_cases e : byteAt s a = 48
    ·have hge' := numLoop_ge s 3 (s.size + 1 - (a + 1 + 1)) (10 * (byteAt s a - 48) + (byteAt s (a + 1) - 48)) (a + 1 + 1)
     rw [h1, h2, if_pos (Or.inr (Or.inr ⟨by omega, e⟩))]
     simp only [Option.some.injEq, reduceCtorEq, false_iff]
     rintro ⟨rfl, -, h4⟩
     dsimp only at h4
     rw [h'] at h4
     cases h4
    ·rw [numLoop_stop (s := s) (lim := 3) (n := 10 * (byteAt s a - 48) + (byteAt s (a + 1) - 48)) (a := a + 1 + 1) (by omega)] at h2
     rw [h1, h2, if_pos (by dsimp only; omega)]
     simp only [Option.some.injEq, reduceCtorEq, false_iff]
     rintro ⟨rfl, -, h4⟩
     dsimp only at h4
     rw [h'] at h4
     cases h4
  ·rw [numLoop_stop (s := s) (lim := 3) (n := byteAt s a - 48) (a := a + 1) (by omega)] at h1
   rw [h1, if_pos (by dsimp only; omega)]
   simp only [Option.some.injEq, reduceCtorEq, false_iff]
   rintro ⟨rfl, h4, -⟩
   exact h3 h4
end Go.Proofs.Ytpddjebdncaceaa
