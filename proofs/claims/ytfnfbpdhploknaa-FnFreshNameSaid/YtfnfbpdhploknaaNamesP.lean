/-
  Lists of names: what a fresh name is (plain).
-/
import Derived.Test.YtfnfbpdhploknaaNamesS
namespace Go.Proofs.Ytfnfbpdhploknaa
open Go.RowKit
set_option linter.unusedVariables false

theorem nameT_size (k : Nat) : (nameT k).size = 1 := rfl
theorem nameT_get (k : Nat) (hk : k < 26) (h : 0 < (nameT k).size) : ((nameT k)[0].toNat : Int) = 97 + (k : Int) := by
  show ((UInt8.ofNat (97 + k)).toNat : Int) = _
  have : (UInt8.ofNat (97 + k)).toNat = 97 + k := by simp; omega
  omega
theorem bl_app (s t : ByteArray) : ∀ i, i ≤ s.size → bl (s ++ t) i = bl s i
  | 0, _ => rfl
  | i + 1, h => by
    have h1 : i < (s ++ t).size := by rw [ByteArray.size_append]; omega
    have h2 : i < s.size := by omega
    rw [bl, bl, dif_pos h1, dif_pos h2, bl_app s t i (by omega), ByteArray.getElem_append_left h2]
theorem bl_name (s : ByteArray) (k : Nat) (hk : k < 26) : bl (s ++ nameT k) (s ++ nameT k).size = (97 + (k : Int)) :: bl s s.size := by
  have hz : (s ++ nameT k).size = s.size + 1 := by rw [ByteArray.size_append]; rfl
  rw [hz, bl, dif_pos (by omega), bl_app _ _ _ (Nat.le_refl _)]
  congr 1
  rw [ByteArray.getElem_append_right (Nat.le_refl _)]
  have := nameT_get k hk (by rw [nameT_size]; omega)
  simpa using this
theorem nameOk_add {s : ByteArray} (h : nameOk s = true) (hz : s.size < 20) : nameOk (s ++ nameT (freshN (bl s s.size))) = true := by
  have hk := nameOk_fresh h
  have hf := freshN_free hk
  unfold nameOk at h ⊢
  rw [bl_name _ _ hk]
  rw [Bool.and_eq_true] at h ⊢
  refine ⟨?_, ?_⟩
  · rw [good, h.1, hf]
    have : ltr (97 + (freshN (bl s s.size) : Int)) = true := by unfold ltr; simp; omega
    rw [this]; rfl
  · simp [ByteArray.size_append, nameT_size]; omega
theorem fresh_add {s : ByteArray} (h : nameOk s = true) : freshN (bl s s.size) < freshN (bl (s ++ nameT (freshN (bl s s.size))) (s ++ nameT (freshN (bl s s.size))).size) := by
  have hk := nameOk_fresh h
  rw [bl_name _ _ hk]
  rcases Nat.lt_or_ge (freshN (bl s s.size)) (freshN ((97 + (freshN (bl s s.size) : Int)) :: bl s s.size)) with e | e
  · exact e
  · exfalso
    have hf := freshN_free (L := (97 + (freshN (bl s s.size) : Int)) :: bl s s.size) (by omega)
    rw [nfind] at hf
    split at hf
    · simp at hf
    · rename_i hne
      rw [Option.isNone_map] at hf
      have : freshN ((97 + (freshN (bl s s.size) : Int)) :: bl s s.size) < freshN (bl s s.size) := by
        rcases Nat.lt_or_eq_of_le e with e' | e'
        · exact e'
        · rw [e'] at hne; exact absurd rfl hne
      rw [freshN_used this] at hf
      cases hf

/-- How many of a list are below c. -/
def cntB (c : Int) : List Int → Nat
  | [] => 0
  | x :: r => cntB c r + if x < c then 1 else 0
def cntE (c : Int) : List Int → Nat
  | [] => 0
  | x :: r => cntE c r + if x = c then 1 else 0
theorem cntB_succ (c : Int) : ∀ L, cntB (c + 1) L = cntB c L + cntE c L
  | [] => rfl
  | x :: r => by
    rw [cntB, cntB, cntE, cntB_succ c r]
    by_cases h1 : x < c
    · rw [if_pos h1, if_pos (by omega), if_neg (by omega)]; omega
    · by_cases h2 : x = c
      · rw [if_neg h1, if_pos (by omega), if_pos h2]; omega
      · rw [if_neg h1, if_neg (by omega), if_neg h2]; omega
theorem cntE_none {c : Int} : ∀ {L}, (nfind L c).isNone = true → cntE c L = 0
  | [], _ => rfl
  | x :: r, h => by
    rw [nfind] at h
    split at h
    · simp at h
    · rename_i hne
      rw [Option.isNone_map] at h
      rw [cntE, cntE_none h, if_neg hne]
theorem cntE_one {c : Int} : ∀ {L}, good L = true → (nfind L c).isNone = false → cntE c L = 1
  | [], _, h => by simp [nfind] at h
  | x :: r, g, h => by
    rw [good] at g
    simp only [Bool.and_eq_true] at g
    obtain ⟨g1, g2, g3⟩ := g
    rw [nfind] at h
    split at h
    · rename_i e
      subst e
      rw [cntE, cntE_none g3, if_pos rfl]
    · rename_i hne
      rw [Option.isNone_map] at h
      rw [cntE, cntE_one g1 h, if_neg hne]
theorem cntB_base : ∀ {L}, good L = true → cntB 97 L = 0
  | [], _ => rfl
  | x :: r, g => by
    rw [good] at g
    simp only [Bool.and_eq_true] at g
    obtain ⟨g1, g2, g3⟩ := g
    have : 97 ≤ x := by unfold ltr at g2; simp at g2; omega
    rw [cntB, cntB_base g1, if_neg (by omega)]
theorem cntB_all {L : List Int} (g : good L = true) : ∀ k : Nat, (∀ j, j < k → (nfind L (97 + j)).isNone = false) → cntB (97 + (k : Int)) L = k
  | 0, _ => by have := cntB_base g; simpa using this
  | k + 1, h => by
    have e : (97 : Int) + ((k + 1 : Nat) : Int) = (97 + (k : Int)) + 1 := by omega
    rw [e, cntB_succ, cntB_all g k (fun j hj => h j (by omega)), cntE_one g (h k (by omega))]
theorem mem_bl (s : ByteArray) : ∀ n i (h : i < s.size), i < n → (s[i].toNat : Int) ∈ bl s n
  | 0, _, _, h => by omega
  | n + 1, i, h, h2 => by
    rw [bl, List.mem_cons]
    by_cases e : i = n
    · subst e; left; rw [dif_pos h]
    · exact Or.inr (mem_bl s n i h (by omega))
theorem nameOk_good {s : ByteArray} (h : nameOk s = true) : good (bl s s.size) = true := by unfold nameOk at h; rw [Bool.and_eq_true] at h; exact h.1
theorem cntB_le (c : Int) : ∀ L, cntB c L ≤ L.length
  | [] => Nat.le_refl _
  | x :: r => by rw [cntB, List.length_cons]; have := cntB_le c r; split <;> omega
end Go.Proofs.Ytfnfbpdhploknaa
