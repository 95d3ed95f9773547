/-
  A text has at least as many bytes as its term has nodes.
-/
import Derived.Test.YteeafpnjpcgfaaaGreatFmD
namespace Go.Proofs.YteeafpnjpcgfaaaGreat
open Go.RowKit

theorem ba_ne2 {s : ByteArray} (h : s.size ≠ 0) : s.toList.isEmpty = false := by
  cases hs : s.toList with
  | nil =>
    rw [ByteArray.toList_eq] at hs
    exact absurd (by have h2 := congrArg List.length hs; rw [Array.length_toList] at h2; exact h2) h
  | cons x l => rfl

/-- A text of a node has at least the bytes of its operands' texts, and one more. -/
theorem txtOf_ge {k n : Int} {L : List Tm} (hr : RootOk k n L.length) : 1 + ((L.map fun t => t.txt.size).sum) ≤ (Tm.mk k n L).txt.size := by
  obtain ⟨ha, hn0, hnm⟩ := hr
  have hk16 : 1 ≤ k ∧ k ≤ 16 := by
    unfold arity at ha
    repeat (split at ha; · omega)
    omega
  have hkk : k = 1 ∨ k = 2 ∨ k = 3 ∨ k = 4 ∨ k = 5 ∨ k = 6 ∨ k = 7 ∨ k = 8 ∨ k = 9 ∨ k = 10 ∨ k = 11 ∨ k = 12 ∨ k = 13 ∨ k = 14 ∨ k = 15 ∨ k = 16 := by omega
  have h1 : ∀ x, (ByteArray.mk #[x]).size = 1 := fun _ => rfl
  have h2 : ∀ x y, (ByteArray.mk #[x, y]).size = 2 := fun _ _ => rfl
  have h0 : (ByteArray.mk #[]).size = 0 := rfl
  have len0 : L.length = 0 → L = [] := List.eq_nil_of_length_eq_zero
  rcases hkk with rfl | rfl | rfl | rfl | rfl | rfl | rfl | rfl | rfl | rfl | rfl | rfl | rfl | rfl | rfl | rfl
  · skip
    have hl : L.length = 0 := by
      have h : arity 1 = 0 := by kernel_rfl
      omega
    obtain rfl := len0 hl
    obtain ⟨m, rfl⟩ : ∃ m : Nat, n = (m : Int) := ⟨n.toNat, by omega⟩
    rw [txt_1]
    simp only [List.map_nil, List.sum_nil, ByteArray.size_append, h1]
    try omega
  · skip
    have hl : L.length = 0 := by
      have h : arity 2 = 0 := by kernel_rfl
      omega
    obtain rfl := len0 hl
    obtain ⟨m, rfl⟩ : ∃ m : Nat, n = (m : Int) := ⟨n.toNat, by omega⟩
    rw [txt_2]
    simp only [List.map_nil, List.sum_nil, ByteArray.size_append, h1]
    try omega
  · skip
    have hl : L.length = 2 := by
      have h : arity 3 = 2 := by kernel_rfl
      omega
    obtain ⟨t0, t1, rfl⟩ := len_two hl
    rw [txt_3]
    simp [joinB, txtL, kidS, ByteArray.size_append, h1, h2, h0]
    try omega
  · skip
    have hl : L.length = 2 := by
      have h : arity 4 = 2 := by kernel_rfl
      omega
    obtain ⟨t0, t1, rfl⟩ := len_two hl
    rw [txt_4]
    simp [joinB, txtL, kidS, ByteArray.size_append, h1, h2, h0]
    try omega
  · skip
    have hl : L.length = 2 := by
      have h : arity 5 = 2 := by kernel_rfl
      omega
    obtain ⟨t0, t1, rfl⟩ := len_two hl
    rw [txt_5]
    simp [joinB, txtL, kidS, ByteArray.size_append, h1, h2, h0]
    try omega
  · skip
    have hl : L.length = 0 := by
      have h : arity 6 = 0 := by kernel_rfl
      omega
    obtain rfl := len0 hl
    rw [txt_6]
    simp only [List.map_nil, List.sum_nil, ByteArray.size_append, h1]
    try omega
  · skip
    have hl : L.length = 0 := by
      have h : arity 7 = 0 := by kernel_rfl
      omega
    obtain rfl := len0 hl
    rw [txt_7]
    simp only [List.map_nil, List.sum_nil, ByteArray.size_append, h1]
    try omega
  · skip
    have hl : L.length = 1 := by
      have h : arity 8 = 1 := by kernel_rfl
      omega
    obtain ⟨t0, rfl⟩ : ∃ t0, L = [t0] := List.length_eq_one_iff.1 hl
    rw [txt_8]
    simp [joinB, txtL, kidS, ByteArray.size_append, h1, h2, h0]
    try omega
  · skip
    have hl : L.length = 4 := by
      have h : arity 9 = 4 := by kernel_rfl
      omega
    obtain ⟨t0, t1, t2, t3, rfl⟩ := len_four hl
    rw [txt_9]
    simp [joinB, txtL, kidS, ByteArray.size_append, h1, h2, h0]
    try omega
  · skip
    have hl : L.length = 3 := by
      have h : arity 10 = 3 := by kernel_rfl
      omega
    obtain ⟨t0, t1, t2, rfl⟩ := len_three hl
    rw [txt_10]
    simp [joinB, txtL, kidS, ByteArray.size_append, h1, h2, h0]
    try omega
  · skip
    have hl : L.length = 1 := by
      have h : arity 11 = 1 := by kernel_rfl
      omega
    obtain ⟨t0, rfl⟩ : ∃ t0, L = [t0] := List.length_eq_one_iff.1 hl
    rw [txt_11]
    simp [joinB, txtL, kidS, ByteArray.size_append, h1, h2, h0]
    try omega
  · skip
    have hl : L.length = 3 := by
      have h : arity 12 = 3 := by kernel_rfl
      omega
    obtain ⟨t0, t1, t2, rfl⟩ := len_three hl
    rw [txt_12]
    simp [joinB, txtL, kidS, ByteArray.size_append, h1, h2, h0]
    try omega
  · skip
    have hl : L.length = 2 := by
      have h : arity 13 = 2 := by kernel_rfl
      omega
    obtain ⟨t0, t1, rfl⟩ := len_two hl
    rw [txt_13]
    simp [joinB, txtL, kidS, ByteArray.size_append, h1, h2, h0]
    try omega
  · skip
    have hl : L.length = 3 := by
      have h : arity 14 = 3 := by kernel_rfl
      omega
    obtain ⟨t0, t1, t2, rfl⟩ := len_three hl
    rw [txt_14]
    simp [joinB, txtL, kidS, ByteArray.size_append, h1, h2, h0]
    try omega
  · skip
    have hl : L.length = 1 := by
      have h : arity 15 = 1 := by kernel_rfl
      omega
    obtain ⟨t0, rfl⟩ : ∃ t0, L = [t0] := List.length_eq_one_iff.1 hl
    rw [txt_15]
    simp [joinB, txtL, kidS, ByteArray.size_append, h1, h2, h0]
    try omega
  · skip
    have hl : L.length = 1 := by
      have h : arity 16 = 1 := by kernel_rfl
      omega
    obtain ⟨t0, rfl⟩ : ∃ t0, L = [t0] := List.length_eq_one_iff.1 hl
    rw [txt_16]
    simp [joinB, txtL, kidS, ByteArray.size_append, h1, h2, h0]
    try omega

mutual
theorem Tm.size_txt : ∀ t : Tm, t.allOk → t.size ≤ t.txt.size
  | .mk k n l, h => by
    rw [Tm.allOk] at h
    have h1 := txtOf_ge h.1
    have h2 := sizes_txt l h.2
    rw [Tm.size]
    omega
theorem sizes_txt : ∀ l : List Tm, allsOk l → sizes l ≤ (l.map fun t => t.txt.size).sum
  | [], _ => by rw [sizes]; exact Nat.zero_le _
  | t :: l, h => by
    rw [allsOk] at h
    have h1 := Tm.size_txt t h.1
    have h2 := sizes_txt l h.2
    rw [sizes, List.map_cons, List.sum_cons]
    omega
end

end Go.Proofs.YteeafpnjpcgfaaaGreat
