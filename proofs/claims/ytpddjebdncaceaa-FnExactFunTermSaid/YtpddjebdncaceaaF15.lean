/-
  ParseP.
-/
import Derived.Test.YtpddjebdncaceaaF14
namespace Go.Proofs.Ytpddjebdncaceaa
def preKind (b : Nat) : Int := if b = 33 then 11 else if b = 94 then 15 else if b = 95 then 16 else 8
def roundKind (b : Nat) : Int := if b = 62 then 3 else if b = 42 then 13 else if b = 32 then 5 else 0
def blockKind (b : Nat) : Int := if b = 60 then 9 else if b = 123 then 10 else if b = 124 then 14 else if b = 64 then 12 else 0
def blockLast (b : Nat) : Nat := if b = 123 then 125 else if b = 124 then 124 else 62
def byteAt (s : ByteArray) (a : Nat) : Nat := if h : a < s.size then s[a].toNat else 0
theorem byteAt_eq {s : ByteArray} {a : Nat} (h : a < s.size) : byteAt s a = s[a].toNat := dif_pos h
def ptSer (s : ByteArray) (f : Nat → Option (Tm × Nat)) (last : Nat) : Nat → Nat → Option (List Tm × Nat)
 | 0, a => some ([], a)
 | m + 1, a => match f a with
  | none => none
  | some x => if x.2 < s.size ∧ byteAt s x.2 = (if m = 0 then last else 44) then (ptSer s f last m (x.2 + 1)).map fun y => (x.1 :: y.1, y.2) else none
def ptRound (s : ByteArray) (f : Nat → Option (Tm × Nat)) (a : Nat) : Option (Tm × Nat) :=
 match f a with
 | none => none
 | some x => if x.2 < s.size then (match f (x.2 + 1) with
  | none => none
  | some y => if roundKind (byteAt s x.2) ≠ 0 ∧ y.2 < s.size ∧ byteAt s y.2 = 41 then some (.mk (roundKind (byteAt s x.2)) 0 [x.1, y.1], y.2 + 1) else none) else none
def ptLam (s : ByteArray) (f : Nat → Option (Tm × Nat)) (a : Nat) : Option (Tm × Nat) :=
 match f a with
 | none => none
 | some x => if x.2 < s.size ∧ byteAt s x.2 = 93 then (f (x.2 + 1)).map fun y => (.mk 4 0 [x.1, y.1], y.2) else none
def ptBlock (s : ByteArray) (f : Nat → Option (Tm × Nat)) (a : Nat) : Option (Tm × Nat) :=
 if blockKind (byteAt s a) = 0 then none else
 if byteAt s a = 64 ∧ ¬ byteAt s (a + 1) = 60 then none else
 (ptSer s f (blockLast (byteAt s a)) (if blockKind (byteAt s a) = 9 then 4 else 3) (if byteAt s a = 64 then a + 2 else a + 1)).map fun y => (.mk (blockKind (byteAt s a)) 0 y.1, y.2)
def pt (s : ByteArray) : Nat → Nat → Option (Tm × Nat)
 | 0, _ => none
 | d + 1, a => if a < s.size then
   if byteAt s a = 35 then (ptNum s (a + 1) 2).map fun x => (.mk 1 x.1 [], x.2)
   else if byteAt s a = 42 then (ptNum s (a + 1) 1).map fun x => (.mk 2 x.1 [], x.2)
   else if byteAt s a = 78 then some (.mk 6 0 [], a + 1)
   else if byteAt s a = 48 then some (.mk 7 0 [], a + 1)
   else if byteAt s a = 43 ∨ byteAt s a = 33 ∨ byteAt s a = 94 ∨ byteAt s a = 95 then (pt s d (a + 1)).map fun x => (.mk (preKind (byteAt s a)) 0 [x.1], x.2)
   else if byteAt s a = 40 then ptRound s (pt s d) (a + 1)
   else if byteAt s a = 91 then ptLam s (pt s d) (a + 1)
   else ptBlock s (pt s d) a
  else none
theorem ptNum_le {s : ByteArray} {a d : Nat} {x : Nat × Nat} (ha : a ≤ s.size) (h : ptNum s a d = some x) : x.2 ≤ s.size := by
 unfold ptNum at h
 split at h
 ·simp only [Option.some.injEq] at h
  rw [← h]
  exact digRun_in s d a ha
 ·cases h
theorem ptSer_le {s : ByteArray} {f : Nat → Option (Tm × Nat)} (last : Nat) : ∀ (m a : Nat) (x : List Tm × Nat), a ≤ s.size → ptSer s f last m a = some x → x.2 ≤ s.size
 | 0, a, x, ha, h => by
  rw [ptSer] at h
  simp only [Option.some.injEq] at h
  rw [← h]
  exact ha
 | m + 1, a, x, ha, h => by
  rw [ptSer] at h
  cases hf : f a with
  | none => rw [hf] at h; cases h
  | some y =>
   rw [hf] at h
   dsimp only at h
   by_cases hy : y.2 < s.size ∧ byteAt s y.2 = (if m = 0 then last else 44)
   ·rw [if_pos hy] at h
    obtain ⟨z, hz, rfl⟩ := Option.map_eq_some_iff.1 h
    exact ptSer_le last m (y.2 + 1) z (by omega) hz
   ·rw [if_neg hy] at h
    cases h
theorem pt_le (s : ByteArray) : ∀ (d a : Nat) (x : Tm × Nat), pt s d a = some x → x.2 ≤ s.size
 | 0, a, x, h => by rw [pt] at h; cases h
 | d + 1, a, x, h => by
  rw [pt] at h
  split at h
  ·rename_i ha
   split at h
   ·obtain ⟨z, hz, rfl⟩ := Option.map_eq_some_iff.1 h
    exact ptNum_le (by omega) hz
   split at h
   ·obtain ⟨z, hz, rfl⟩ := Option.map_eq_some_iff.1 h
    exact ptNum_le (by omega) hz
   split at h
   ·simp only [Option.some.injEq] at h; rw [← h]; omega
   split at h
   ·simp only [Option.some.injEq] at h; rw [← h]; omega
   split at h
   ·obtain ⟨z, hz, rfl⟩ := Option.map_eq_some_iff.1 h
    exact pt_le s d _ z hz
   split at h
   ·unfold ptRound at h
    split at h
    ·cases h
    ·split at h
     ·split at h
      ·cases h
      ·split at h
       ·simp only [Option.some.injEq] at h; rw [← h]; dsimp only; omega
       ·cases h
     ·cases h
   split at h
   ·unfold ptLam at h
    split at h
    ·cases h
    ·split at h
     ·obtain ⟨z, hz, rfl⟩ := Option.map_eq_some_iff.1 h
      exact pt_le s d _ z hz
     ·cases h
   ·unfold ptBlock at h
    split at h
    ·cases h
    split at h
    ·cases h
    ·rename_i h64
     obtain ⟨z, hz, rfl⟩ := Option.map_eq_some_iff.1 h
     refine ptSer_le _ _ _ z ?_ hz
     split
     ·rename_i h6
      have : byteAt s (a + 1) = 60 := Classical.byContradiction fun hc => h64 ⟨h6, hc⟩
      unfold byteAt at this
      split at this
      ·omega
      ·cases this
     ·omega
  ·cases h
end Go.Proofs.Ytpddjebdncaceaa
