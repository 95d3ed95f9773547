/-
  CurR.
-/
import Derived.Test.YtpddjebdncaceaaF34
namespace Go.Proofs.Ytpddjebdncaceaa
set_option linter.unusedVariables false
theorem dg_no {s : ByteArray} {a b : Nat} (h : byteAt s a = b) (hb : b < 48 ∨ 57 < b) : dg s a = false := by
 cases e : dg s a with
 | false => rfl
 | true => have := dg_iff.1 e; omega
def FullAt (s : ByteArray) (g : Nat → Option (Tm × Nat)) (f : Nat → Nat → Option (Tm × Nat × Nat)) : Prop :=
 ∀ a c x, g a = some x → x.1.allOk → c + x.1.size ≤ 400 → dg s x.2 = false → f a c = some (x.1, x.2, c + x.1.size)
theorem full_ends {s : ByteArray} {g : Nat → Option (Tm × Nat)} {f : Nat → Nat → Option (Tm × Nat × Nat)} (h : FullAt s g f) (last : Nat) (hl : 57 < last) : ∀ (m a c : Nat) (y : List Tm × Nat), ptSer s g last (m + 1) a = some y → allsOk y.1 → c + sizes y.1 ≤ 400 →
  ctEnds s f (List.replicate m 44 ++ [last]) a c = some (y.1, y.2, c + sizes y.1)
 | 0, a, c, y, hy, hok, hsz => by
  rw [ptSer] at hy
  cases hf : g a with
  | none => rw [hf] at hy; cases hy
  | some x =>
   rw [hf] at hy
   dsimp only at hy
   by_cases hb : x.2 < s.size ∧ byteAt s x.2 = (if 0 = 0 then last else 44)
   ·rw [if_pos hb] at hy
    rw [if_pos rfl] at hb
    rw [ptSer] at hy
    simp only [Option.map_some, Option.some.injEq] at hy
    subst hy
    simp only [allsOk, sizes] at hok hsz
    have := h a c x hf hok.1 (by omega) (dg_no hb.2 (by omega))
    rw [List.replicate_zero, List.nil_append, ctEnds, this]
    dsimp only
    rw [if_neg (by omega), if_pos hb.2, ctEnds]
    simp [sizes]
   ·rw [if_neg hb] at hy; cases hy
 | m + 1, a, c, y, hy, hok, hsz => by
  rw [ptSer] at hy
  cases hf : g a with
  | none => rw [hf] at hy; cases hy
  | some x =>
   rw [hf] at hy
   dsimp only at hy
   by_cases hb : x.2 < s.size ∧ byteAt s x.2 = (if m + 1 = 0 then last else 44)
   ·rw [if_pos hb] at hy
    rw [if_neg (by omega)] at hb
    obtain ⟨z, hz, rfl⟩ := Option.map_eq_some_iff.1 hy
    simp only [allsOk, sizes] at hok hsz
    have h1 := h a c x hf hok.1 (by omega) (dg_no hb.2 (by omega))
    have h2 := full_ends h last hl m (x.2 + 1) (c + x.1.size) z hz hok.2 (by omega)
    rw [List.replicate_succ, List.cons_append, ctEnds, h1]
    dsimp only
    rw [if_neg (by decide), if_pos hb.2, h2]
    simp [sizes]
    omega
   ·rw [if_neg hb] at hy; cases hy
theorem full_one {s : ByteArray} {g : Nat → Option (Tm × Nat)} {f : Nat → Nat → Option (Tm × Nat × Nat)} (h : FullAt s g f) {k : Int} {a c : Nat} {x : Tm × Nat} (hy : (g a).map (fun x => (Tm.mk k 0 [x.1], x.2)) = some x) (hok : x.1.allOk) (hsz : c + x.1.size ≤ 401) (hd : dg s x.2 = false) :
  ctNode s f k [0] a c = some (x.1, x.2, c + x.1.size - 1) := by
 obtain ⟨z, hz, rfl⟩ := Option.map_eq_some_iff.1 hy
 simp only [Tm.allOk, Tm.size, allsOk, sizes] at hok hsz
 have h1 := h a c z hz hok.2.1 (by omega) hd
 unfold ctNode
 rw [ctEnds, h1]
 dsimp only
 rw [if_pos rfl, ctEnds]
 simp [Tm.size, sizes]
 omega
theorem full_ct (s : ByteArray) : ∀ d, FullAt s (pt s d) (ct s d)
 | 0 => fun a c x h => by rw [pt] at h; cases h
 | d + 1 => fun a c x h hok hsz hd => by
  have ih := full_ct s d
  have hp1 := x.1.size_pos
  have hdec := h
  rw [pt] at h
  by_cases ha : a < s.size
  rotate_left
  ·rw [if_neg ha] at h; cases h
  rw [if_pos ha] at h
  rw [ct, if_neg (by omega)]
  split at h
  ·rename_i b
   rw [if_pos b]
   obtain ⟨z, hz, rfl⟩ := Option.map_eq_some_iff.1 h
   have hr : (z.1 : Int) ≤ 20 := by have := hok; rw [Tm.allOk] at this; exact this.1.2.2
   unfold ctNum
   rw [(numC_20 s (a + 1) z).2 ⟨hz, by omega, hd⟩]
   simp [Tm.size, sizes]
  rename_i n35
  rw [if_neg n35]
  split at h
  ·rename_i b
   rw [if_neg (by omega), if_neg (by omega)]
   obtain ⟨z, hz, rfl⟩ := Option.map_eq_some_iff.1 h
   have hr : (z.1 : Int) ≤ 3 := by have := hok; rw [Tm.allOk] at this; exact this.1.2.2
   unfold ctPlain
   rw [if_pos b]
   unfold ctNum
   rw [(numC_3 s (a + 1) z).2 ⟨hz, by omega, hd⟩]
   simp [Tm.size, sizes]
  rename_i n42
  split at h
  ·rename_i b
   simp only [Option.some.injEq] at h
   subst h
   rw [if_neg (by omega), if_neg (by omega)]
   unfold ctPlain
   rw [if_neg n42, if_pos b]
   simp [Tm.size, sizes]
  rename_i n78
  split at h
  ·rename_i b
   simp only [Option.some.injEq] at h
   subst h
   rw [if_neg (by omega), if_neg (by omega)]
   unfold ctPlain
   rw [if_neg n42, if_neg n78, if_pos b]
   simp [Tm.size, sizes]
  rename_i n48
  split at h
  ·rename_i b
   have hfo := full_one ih (c := c + 1) h hok (by omega) hd
   rw [if_neg (by omega), if_neg (by omega)]
   have e : c + 1 + x.1.size - 1 = c + x.1.size := by omega
   rw [e] at hfo
   unfold ctPlain
   rw [if_neg n42, if_neg n78, if_neg n48]
   rcases b with b | b | b | b
   ·rw [if_pos b]; rw [b] at hfo; exact hfo
   ·rw [if_neg (by omega), if_neg (by omega), if_neg (by omega), if_pos b]; rw [b] at hfo; exact hfo
   ·rw [if_neg (by omega), if_neg (by omega), if_neg (by omega), if_neg (by omega), if_neg (by omega), if_neg (by omega), if_pos b]; rw [b] at hfo; exact hfo
   ·rw [if_neg (by omega), if_neg (by omega), if_neg (by omega), if_neg (by omega), if_neg (by omega), if_neg (by omega), if_neg (by omega), if_pos b]; rw [b] at hfo; exact hfo
  rename_i npre
  split at h
  ·rename_i b
   rw [if_pos b]
   unfold ptRound at h
   cases hf : pt s d (a + 1) with
   | none => rw [hf] at h; cases h
   | some y =>
    rw [hf] at h
    dsimp only at h
    by_cases hyl : y.2 < s.size
    rotate_left
    ·rw [if_neg hyl] at h; cases h
    rw [if_pos hyl] at h
    cases hf2 : pt s d (y.2 + 1) with
    | none => rw [hf2] at h; cases h
    | some z =>
     rw [hf2] at h
     dsimp only at h
     split at h
     ·rename_i hc
      simp only [Option.some.injEq] at h
      subst h
      simp only [Tm.allOk, Tm.size, allsOk, sizes] at hok hsz
      have hrb : byteAt s y.2 < 48 ∨ 57 < byteAt s y.2 := by
       have := hc.1
       unfold roundKind at this
       by_cases e1 : byteAt s y.2 = 62
       ·omega
       by_cases e2 : byteAt s y.2 = 42
       ·omega
       by_cases e3 : byteAt s y.2 = 32
       ·omega
       ·rw [if_neg e1, if_neg e2, if_neg e3] at this; exact absurd rfl this
      have h1 := ih (a + 1) (c + 1) y hf hok.2.1 (by omega) (dg_no rfl hrb)
      have h2 := ih (y.2 + 1) (c + 1 + y.1.size) z hf2 hok.2.2.1 (by omega) (dg_no hc.2.2 (by omega))
      unfold ctRound
      rw [h1]
      dsimp only
      rw [if_neg hc.1, h2]
      dsimp only
      rw [if_pos hc.2.2]
      simp [Tm.size, sizes]
      omega
     ·cases h
  rename_i n40
  rw [if_neg n40]
  split at h
  ·rename_i b
   rw [if_pos b]
   unfold ptLam at h
   cases hf : pt s d (a + 1) with
   | none => rw [hf] at h; cases h
   | some y =>
    rw [hf] at h
    dsimp only at h
    split at h
    ·rename_i hc
     obtain ⟨z, hz, rfl⟩ := Option.map_eq_some_iff.1 h
     simp only [Tm.allOk, Tm.size, allsOk, sizes] at hok hsz
     have h1 := ih (a + 1) (c + 1) y hf hok.2.1 (by omega) (dg_no hc.2 (by omega))
     have h2 := ih (y.2 + 1) (c + 1 + y.1.size) z hz hok.2.2.1 (by omega) hd
     unfold ctNode
     rw [ctEnds, h1]
     dsimp only
     rw [if_neg (by decide), if_pos hc.2, ctEnds, h2]
     dsimp only
     rw [if_pos rfl, ctEnds]
     simp [Tm.size, sizes]
     omega
    ·cases h
  rename_i n91
  rw [if_neg n91]
  unfold ptBlock at h
  split at h
  ·cases h
  rename_i hk0
  split at h
  ·cases h
  rename_i h64
  obtain ⟨y, hy, rfl⟩ := Option.map_eq_some_iff.1 h
  simp only [Tm.allOk, Tm.size] at hok hsz
  have hone : c + 1 + sizes y.1 = c + (1 + sizes y.1) := by omega
  have hcase : byteAt s a = 60 ∨ byteAt s a = 123 ∨ byteAt s a = 124 ∨ byteAt s a = 64 := by
   unfold blockKind at hk0
   by_cases e1 : byteAt s a = 60
   ·exact Or.inl e1
   by_cases e2 : byteAt s a = 123
   ·exact Or.inr (Or.inl e2)
   by_cases e3 : byteAt s a = 124
   ·exact Or.inr (Or.inr (Or.inl e3))
   by_cases e4 : byteAt s a = 64
   ·exact Or.inr (Or.inr (Or.inr e4))
   ·rw [if_neg e1, if_neg e2, if_neg e3, if_neg e4] at hk0; exact absurd rfl hk0
  have hblk : ∀ b k m last st, byteAt s a = b → blockKind b = k → blockLast b = last → (if k = 9 then 4 else 3) = m + 1 → 57 < last → (if b = 64 then a + 2 else a + 1) = st → ctNode s (ct s d) k (List.replicate m 44 ++ [last]) st (c + 1) = some (Tm.mk (blockKind (byteAt s a)) 0 y.1, y.2, c + (Tm.mk (blockKind (byteAt s a)) 0 y.1).size) := fun b k m last st hb hk hla hm hl hst => by
   rw [hb, hk, hla, hm, hst] at hy
   have := full_ends ih last hl m st (c + 1) y hy hok.2 (by omega)
   unfold ctNode
   rw [this, hb, hk]
   simp [Tm.size]
   omega
  unfold ctPlain
  rw [if_neg n42, if_neg n78, if_neg n48, if_neg (fun e => npre (Or.inl e))]
  rcases hcase with b | b | b | b
  ·rw [if_pos b]; exact hblk 60 9 3 62 (a + 1) b (by decide) rfl rfl (by decide) rfl
  ·rw [if_neg (by omega), if_pos b]; exact hblk 123 10 2 125 (a + 1) b (by decide) rfl rfl (by decide) rfl
  ·rw [if_neg (by omega), if_neg (by omega), if_neg (by omega), if_neg (by omega), if_pos b]; exact hblk 124 14 2 124 (a + 1) b (by decide) rfl rfl (by decide) rfl
  ·have h60 : byteAt s (a + 1) = 60 := Classical.byContradiction fun hc => h64 ⟨b, hc⟩
   rw [if_neg (by omega), if_neg (by omega), if_neg (by omega), if_pos b, if_pos h60]
   exact hblk 64 12 2 62 (a + 2) b (by decide) rfl rfl (by decide) rfl
end Go.Proofs.Ytpddjebdncaceaa
