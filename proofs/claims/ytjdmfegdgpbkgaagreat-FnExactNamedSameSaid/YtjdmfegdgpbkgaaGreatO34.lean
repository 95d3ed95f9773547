/-
  NmQ.
-/
import Derived.Test.YtjdmfegdgpbkgaaGreatO33
namespace Go.Proofs.YtjdmfegdgpbkgaaGreat
set_option linter.unusedVariables false
theorem full_plain {s : ByteArray} {g : Nat → Option (Tm × Nat)} {f : Nat → Nat → Option (Tm × Nat × Nat)} (ih : FullAt s g f) {a c d : Nat} {x : Tm × Nat} (hok : x.1.allOk) (hsz : c + x.1.size ≤ 400) (hd : dg s x.2 = false) (ha : a < s.size)
  (h : ((byteAt s a = 42 ∨ byteAt s a = 78 ∨ byteAt s a = 48) ∧ pt s (d + 1) a = some x) ∨ ((byteAt s a = 43 ∨ byteAt s a = 33 ∨ byteAt s a = 94 ∨ byteAt s a = 95) ∧ (g (a + 1)).map (fun x => (Tm.mk (preKind (byteAt s a)) 0 [x.1], x.2)) = some x) ∨
   (¬ (byteAt s a = 42 ∨ byteAt s a = 78 ∨ byteAt s a = 48) ∧ ¬ (byteAt s a = 43 ∨ byteAt s a = 33 ∨ byteAt s a = 94 ∨ byteAt s a = 95) ∧ ptBlock s g a = some x)) :
  ctPlain s f (byteAt s a) (a + 1) (c + 1) = some (x.1, x.2, c + x.1.size) := by
 have hp1 := x.1.size_pos
 rcases h with ⟨hb, h⟩ | ⟨b, h⟩ | ⟨n1, n2, h⟩
 ·rw [pt, if_pos ha, if_neg (by omega)] at h
  rcases hb with b | b | b
  ·rw [if_pos b] at h
   obtain ⟨z, hz, rfl⟩ := Option.map_eq_some_iff.1 h
   have hr : (z.1 : Int) ≤ 3 := by have := hok; rw [Tm.allOk] at this; exact this.1.2.2
   unfold ctPlain
   rw [if_pos b]
   unfold ctNum
   rw [(numC_3 s (a + 1) z).2 ⟨hz, by omega, hd⟩]
   simp [Tm.size, sizes]
  ·rw [if_neg (by omega), if_pos b] at h
   simp only [Option.some.injEq] at h
   subst h
   unfold ctPlain
   rw [if_neg (by omega), if_pos b]
   simp [Tm.size, sizes]
  ·rw [if_neg (by omega), if_neg (by omega), if_pos b] at h
   simp only [Option.some.injEq] at h
   subst h
   unfold ctPlain
   rw [if_neg (by omega), if_neg (by omega), if_pos b]
   simp [Tm.size, sizes]
 ·have hfo := full_one ih (c := c + 1) h hok (by omega) hd
  have e : c + 1 + x.1.size - 1 = c + x.1.size := by omega
  rw [e] at hfo
  unfold ctPlain
  rw [if_neg (by omega), if_neg (by omega), if_neg (by omega)]
  rcases b with b | b | b | b
  ·rw [if_pos b]; rw [b] at hfo; exact hfo
  ·rw [if_neg (by omega), if_neg (by omega), if_neg (by omega), if_pos b]; rw [b] at hfo; exact hfo
  ·rw [if_neg (by omega), if_neg (by omega), if_neg (by omega), if_neg (by omega), if_neg (by omega), if_neg (by omega), if_pos b]; rw [b] at hfo; exact hfo
  ·rw [if_neg (by omega), if_neg (by omega), if_neg (by omega), if_neg (by omega), if_neg (by omega), if_neg (by omega), if_neg (by omega), if_pos b]; rw [b] at hfo; exact hfo
 ·unfold ptBlock at h
  split at h
  ·cases h
  rename_i hk0
  split at h
  ·cases h
  rename_i h64
  obtain ⟨y, hy, rfl⟩ := Option.map_eq_some_iff.1 h
  simp only [Tm.allOk, Tm.size] at hok hsz
  have hone : c + 1 + sizes y.1 = c + (1 + sizes y.1) := by omega
  have hcase : byteAt s a = 60 ∨ byteAt s a = 123 ∨ byteAt s a = 124 ∨ byteAt s a = 64 := by
   unfold blockKind at hk0
   by_cases e1 : byteAt s a = 60
   ·exact Or.inl e1
   by_cases e2 : byteAt s a = 123
   ·exact Or.inr (Or.inl e2)
   by_cases e3 : byteAt s a = 124
   ·exact Or.inr (Or.inr (Or.inl e3))
   by_cases e4 : byteAt s a = 64
   ·exact Or.inr (Or.inr (Or.inr e4))
   ·rw [if_neg e1, if_neg e2, if_neg e3, if_neg e4] at hk0; exact absurd rfl hk0
  have hblk : ∀ b k m last st, byteAt s a = b → blockKind b = k → blockLast b = last → (if k = 9 then 4 else 3) = m + 1 → 57 < last → (if b = 64 then a + 2 else a + 1) = st → ctNode s f k (List.replicate m 44 ++ [last]) st (c + 1) = some (Tm.mk (blockKind (byteAt s a)) 0 y.1, y.2, c + (Tm.mk (blockKind (byteAt s a)) 0 y.1).size) := fun b k m last st hb hk hla hm hl hst => by
   rw [hb, hk, hla, hm, hst] at hy
   have := full_ends ih last hl m st (c + 1) y hy hok.2 (by omega)
   unfold ctNode
   rw [this, hb, hk]
   simp [Tm.size]
   omega
  unfold ctPlain
  rw [if_neg (fun e => n1 (Or.inl e)), if_neg (fun e => n1 (Or.inr (Or.inl e))), if_neg (fun e => n1 (Or.inr (Or.inr e))), if_neg (fun e => n2 (Or.inl e))]
  rcases hcase with b | b | b | b
  ·rw [if_pos b]; exact hblk 60 9 3 62 (a + 1) b (by decide) rfl rfl (by decide) rfl
  ·rw [if_neg (by omega), if_pos b]; exact hblk 123 10 2 125 (a + 1) b (by decide) rfl rfl (by decide) rfl
  ·rw [if_neg (by omega), if_neg (by omega), if_neg (by omega), if_neg (by omega), if_pos b]; exact hblk 124 14 2 124 (a + 1) b (by decide) rfl rfl (by decide) rfl
  ·have h60 : byteAt s (a + 1) = 60 := Classical.byContradiction fun hc => h64 ⟨b, hc⟩
   rw [if_neg (by omega), if_neg (by omega), if_neg (by omega), if_pos b, if_pos h60]
   exact hblk 64 12 2 62 (a + 2) b (by decide) rfl rfl (by decide) rfl
theorem full_nct (s : ByteArray) : ∀ d L, FullAt s (npt s d L) (nct s d L)
 | 0, L => fun a c x h => by rw [npt] at h; cases h
 | d + 1, L => fun a c x h hok hsz hd => by
  have ih := full_nct s d
  have hp1 := x.1.size_pos
  rw [npt] at h
  by_cases ha : a < s.size
  rotate_left
  ·rw [if_neg ha] at h; cases h
  rw [if_pos ha] at h
  rw [nct, if_neg (by omega)]
  by_cases h1 : byteAt s a = 42 ∨ byteAt s a = 78 ∨ byteAt s a = 48
  ·rw [if_pos h1] at h
   rw [if_neg (by rw [ltr_not (by omega)]; simp), if_neg (by omega), if_neg (by omega)]
   exact full_plain (ih L) hok hsz hd ha (Or.inl ⟨h1, h⟩)
  rw [if_neg h1] at h
  by_cases h2 : byteAt s a = 43 ∨ byteAt s a = 33 ∨ byteAt s a = 94 ∨ byteAt s a = 95
  ·rw [if_pos h2] at h
   rw [if_neg (by rw [ltr_not (by omega)]; simp), if_neg (by omega), if_neg (by omega)]
   exact full_plain (d := d) (ih L) hok hsz hd ha (Or.inr (Or.inl ⟨h2, h⟩))
  rw [if_neg h2] at h
  by_cases h40 : byteAt s a = 40
  ·rw [if_pos h40] at h
   rw [if_neg (by rw [ltr_not (by omega)]; simp), if_pos h40]
   unfold nptRound at h
   unfold nctRound
   by_cases hco : colon s (a + 1) = true
   ·simp only [hco, if_true] at h
    rw [if_pos hco]
    cases hf : npt s d L (a + 1 + 2) with
    | none => rw [hf] at h; cases h
    | some y =>
     rw [hf] at h
     dsimp only at h
     by_cases hyl : y.2 < s.size
     rotate_left
     ·rw [if_neg hyl] at h; cases h
     rw [if_pos hyl] at h
     cases hf2 : npt s d ((byteAt s (a + 1) : Int) :: L) (y.2 + 1) with
     | none => rw [hf2] at h; cases h
     | some z =>
      rw [hf2] at h
      dsimp only at h
      by_cases hc : bindKind (byteAt s y.2) ≠ 0 ∧ z.2 < s.size ∧ byteAt s z.2 = 41
      ·rw [if_pos hc] at h
       simp only [Option.some.injEq] at h
       subst h
       simp only [Tm.allOk, Tm.size, allsOk, sizes] at hok hsz
       obtain ⟨b1, b2, b3, b4⟩ := bindKind_lt hc.1
       have g1 := ih L (a + 1 + 2) (c + 1) y hf hok.2.1 (by omega) (dg_no rfl b2)
       have g2 := ih _ (y.2 + 1) (c + 1 + y.1.size) z hf2 hok.2.2.1 (by omega) (dg_no hc.2.2 (by omega))
       rw [g1]
       dsimp only
       rw [if_neg hc.1, g2]
       dsimp only
       rw [if_pos hc.2.2]
       simp [Tm.size, sizes]
       omega
      ·rw [if_neg hc] at h; cases h
   ·have hco' : colon s (a + 1) = false := by simpa using hco
    simp only [hco', Bool.false_eq_true, if_false] at h
    rw [if_neg hco]
    cases hf : npt s d L (a + 1) with
    | none => rw [hf] at h; cases h
    | some y =>
     rw [hf] at h
     dsimp only at h
     by_cases hyl : y.2 < s.size
     rotate_left
     ·rw [if_neg hyl] at h; cases h
     rw [if_pos hyl] at h
     cases hf2 : npt s d L (y.2 + 1) with
     | none => rw [hf2] at h; cases h
     | some z =>
      rw [hf2] at h
      dsimp only at h
      by_cases hb : byteAt s y.2 = 32
      rotate_left
      ·rw [if_neg hb, if_neg (fun h => h.1 rfl)] at h; cases h
      rw [if_pos hb] at h
      by_cases hc : (5 : Int) ≠ 0 ∧ z.2 < s.size ∧ byteAt s z.2 = 41
      ·rw [if_pos hc] at h
       simp only [Option.some.injEq] at h
       subst h
       simp only [Tm.allOk, Tm.size, allsOk, sizes] at hok hsz
       have g1 := ih L (a + 1) (c + 1) y hf hok.2.1 (by omega) (dg_no hb (by omega))
       have g2 := ih L (y.2 + 1) (c + 1 + y.1.size) z hf2 hok.2.2.1 (by omega) (dg_no hc.2.2 (by omega))
       unfold ctNode
       rw [ctEnds, g1]
       dsimp only
       rw [if_neg (by decide), if_pos hb, ctEnds, g2]
       dsimp only
       rw [if_neg (by decide), if_pos hc.2.2, ctEnds]
       simp [Tm.size, sizes]
       omega
      ·rw [if_neg hc] at h; cases h
  rw [if_neg h40] at h
  by_cases h91 : byteAt s a = 91
  ·rw [if_pos h91] at h
   rw [if_neg (by rw [ltr_not (by omega)]; simp), if_neg h40, if_pos h91]
   unfold nptFun at h
   unfold nctFun
   by_cases hco : colon s (a + 1) = true
   ·rw [if_pos hco] at h
    rw [if_pos hco]
    cases hf : npt s d L (a + 1 + 2) with
    | none => rw [hf] at h; cases h
    | some y =>
     rw [hf] at h
     dsimp only at h
     by_cases hc : y.2 < s.size ∧ byteAt s y.2 = 93
     ·rw [if_pos hc] at h
      obtain ⟨z, hz, rfl⟩ := Option.map_eq_some_iff.1 h
      simp only [Tm.allOk, Tm.size, allsOk, sizes] at hok hsz
      have g1 := ih L (a + 1 + 2) (c + 1) y hf hok.2.1 (by omega) (dg_no hc.2 (by omega))
      have g2 := ih _ (y.2 + 1) (c + 1 + y.1.size) z hz hok.2.2.1 (by omega) hd
      rw [g1]
      dsimp only
      rw [if_pos hc.2, g2]
      simp [Tm.size, sizes]
      omega
     ·rw [if_neg hc] at h; cases h
   ·rw [if_neg hco] at h; cases h
  rw [if_neg h91] at h
  by_cases hl : ltr (byteAt s a) = true
  ·rw [if_pos hl] at h
   rw [if_pos hl]
   obtain ⟨k, hk, rfl⟩ := Option.map_eq_some_iff.1 h
   rw [hk]
   simp [Tm.size, sizes]
  ·rw [if_neg hl] at h
   rw [if_neg hl, if_neg h40, if_neg h91]
   exact full_plain (d := d) (ih L) hok hsz hd ha (Or.inr (Or.inr ⟨h1, h2, h⟩))
def DeepAt (d : Nat) (g : Nat → Option (Tm × Nat)) : Prop := ∀ a x, g a = some x → x.1.hgt ≤ d
theorem deep_ser {s : ByteArray} {d : Nat} {g : Nat → Option (Tm × Nat)} (h : DeepAt d g) (last : Nat) : ∀ (m a : Nat) (y : List Tm × Nat), ptSer s g last m a = some y → hgts y.1 ≤ d
 | 0, a, y, hy => by
  rw [ptSer] at hy
  simp only [Option.some.injEq] at hy
  subst hy
  simp [hgts]
 | m + 1, a, y, hy => by
  rw [ptSer] at hy
  cases hf : g a with
  | none => rw [hf] at hy; cases hy
  | some x =>
   rw [hf] at hy
   dsimp only at hy
   by_cases hb : x.2 < s.size ∧ byteAt s x.2 = (if m = 0 then last else 44)
   ·rw [if_pos hb] at hy
    obtain ⟨z, hz, rfl⟩ := Option.map_eq_some_iff.1 hy
    have h1 := h a x hf
    have h2 := deep_ser h last m _ z hz
    simp only [hgts]; omega
   ·rw [if_neg hb] at hy; cases hy
theorem deep_block {s : ByteArray} {d : Nat} {g : Nat → Option (Tm × Nat)} (h : DeepAt d g) {a : Nat} {x : Tm × Nat} (hx : ptBlock s g a = some x) : x.1.hgt ≤ d + 1 := by
 unfold ptBlock at hx
 split at hx
 ·cases hx
 split at hx
 ·cases hx
 obtain ⟨y, hy, rfl⟩ := Option.map_eq_some_iff.1 hx
 have := deep_ser h _ _ _ y hy
 simp only [Tm.hgt]; omega
theorem deep_leaf {s : ByteArray} {d a : Nat} {x : Tm × Nat} (hb : byteAt s a = 42 ∨ byteAt s a = 78 ∨ byteAt s a = 48) (hx : pt s (d + 1) a = some x) : x.1.hgt ≤ 1 := by
 rw [pt] at hx
 by_cases ha : a < s.size
 ·rw [if_pos ha, if_neg (by omega)] at hx
  rcases hb with b | b | b
  ·rw [if_pos b] at hx
   obtain ⟨z, hz, rfl⟩ := Option.map_eq_some_iff.1 hx
   simp [Tm.hgt, hgts]
  ·rw [if_neg (by omega), if_pos b] at hx
   simp only [Option.some.injEq] at hx
   subst hx
   simp [Tm.hgt, hgts]
  ·rw [if_neg (by omega), if_neg (by omega), if_pos b] at hx
   simp only [Option.some.injEq] at hx
   subst hx
   simp [Tm.hgt, hgts]
 ·rw [if_neg ha] at hx; cases hx
theorem deep_npt (s : ByteArray) : ∀ d L, DeepAt d (npt s d L)
 | 0, L => fun a x h => by rw [npt] at h; cases h
 | d + 1, L => fun a x h => by
  have ih := deep_npt s d
  rw [npt] at h
  by_cases ha : a < s.size
  rotate_left
  ·rw [if_neg ha] at h; cases h
  rw [if_pos ha] at h
  split at h
  ·rename_i hb
   have := deep_leaf hb h
   omega
  split at h
  ·obtain ⟨z, hz, rfl⟩ := Option.map_eq_some_iff.1 h
   have := ih L _ z hz
   simp only [Tm.hgt, hgts]; omega
  split at h
  ·unfold nptRound at h
   split at h
   ·cases h
   ·rename_i y hy
    split at h
    ·split at h
     ·cases h
     ·rename_i z hz
      have h1 := ih _ _ y hy
      have h2 := ih _ _ z hz
      generalize (if colon s (a + 1) = true then bindKind (byteAt s y.2) else if byteAt s y.2 = 32 then 5 else 0) = kk at h
      by_cases hc : kk ≠ 0 ∧ z.2 < s.size ∧ byteAt s z.2 = 41
      ·rw [if_pos hc] at h
       simp only [Option.some.injEq] at h
       subst h
       simp only [Tm.hgt, hgts]; omega
      ·rw [if_neg hc] at h; cases h
    ·cases h
  split at h
  ·unfold nptFun at h
   split at h
   ·split at h
    ·cases h
    ·rename_i y hy
     split at h
     ·obtain ⟨z, hz, rfl⟩ := Option.map_eq_some_iff.1 h
      have h1 := ih _ _ y hy
      have h2 := ih _ _ z hz
      simp only [Tm.hgt, hgts]; omega
     ·cases h
   ·cases h
  split at h
  ·obtain ⟨k, hk, rfl⟩ := Option.map_eq_some_iff.1 h
   simp [Tm.hgt, hgts]
  ·exact deep_block (ih L) h
theorem npt_le (s : ByteArray) : ∀ d L a x, npt s d L a = some x → x.2 ≤ s.size
 | 0, L, a, x, h => by rw [npt] at h; cases h
 | d + 1, L, a, x, h => by
  have ih := npt_le s d
  rw [npt] at h
  by_cases ha : a < s.size
  rotate_left
  ·rw [if_neg ha] at h; cases h
  rw [if_pos ha] at h
  split at h
  ·exact pt_le s (d + 1) a x h
  split at h
  ·obtain ⟨z, hz, rfl⟩ := Option.map_eq_some_iff.1 h
   exact ih L _ z hz
  split at h
  ·unfold nptRound at h
   split at h
   ·cases h
   ·rename_i y hy
    split at h
    ·split at h
     ·cases h
     ·rename_i z hz
      generalize (if colon s (a + 1) = true then bindKind (byteAt s y.2) else if byteAt s y.2 = 32 then 5 else 0) = kk at h
      by_cases hc : kk ≠ 0 ∧ z.2 < s.size ∧ byteAt s z.2 = 41
      ·rw [if_pos hc] at h
       simp only [Option.some.injEq] at h
       subst h
       dsimp only
       omega
      ·rw [if_neg hc] at h; cases h
    ·cases h
  split at h
  ·unfold nptFun at h
   split at h
   ·split at h
    ·cases h
    ·rename_i y hy
     split at h
     ·obtain ⟨z, hz, rfl⟩ := Option.map_eq_some_iff.1 h
      exact ih _ _ z hz
     ·cases h
   ·cases h
  split at h
  ·obtain ⟨k, hk, rfl⟩ := Option.map_eq_some_iff.1 h
   dsimp only
   omega
  ·unfold ptBlock at h
   split at h
   ·cases h
   split at h
   ·cases h
   ·rename_i h64
    obtain ⟨z, hz, rfl⟩ := Option.map_eq_some_iff.1 h
    refine ptSer_le _ _ _ z ?_ hz
    split
    ·rename_i h6
     have : byteAt s (a + 1) = 60 := Classical.byContradiction fun hc => h64 ⟨h6, hc⟩
     have := byte_lt this (by decide)
     omega
    ·omega
noncomputable def parsedN (s : ByteArray) (L : List Int) : Option Tm := match npt s 30 L 0 with
 | none => none
 | some x => @ite _ (x.2 = s.size ∧ x.1.Valid) (Classical.propDecidable _) (some x.1) none
theorem parsedN_valid {s : ByteArray} {L : List Int} {T : Tm} (h : parsedN s L = some T) : T.Valid := by
 unfold parsedN at h
 cases hp : npt s 30 L 0 with
 | none => rw [hp] at h; cases h
 | some x =>
  rw [hp] at h
  dsimp only at h
  split at h
  ·rename_i hc
   simp only [Option.some.injEq] at h
   subst h
   exact hc.2
  ·cases h
theorem parsedN_nct (s : ByteArray) (L : List Int) : parsedN s L = match nct s 30 L 0 0 with
  | none => none
  | some x => if x.2.1 = s.size then some x.1 else none := by
 cases hc : nct s 30 L 0 0 with
 | some x =>
  obtain ⟨h1, h2, h3, h4, h5⟩ := sound_nct s 30 L 0 0 x hc
  have hh := deep_npt s 30 L 0 _ h1
  dsimp only at hh ⊢
  have hv : x.1.Valid := ⟨h3, hh, by have := h4 (by omega); omega⟩
  unfold parsedN
  rw [h1]
  dsimp only
  by_cases e : x.2.1 = s.size
  ·rw [if_pos e, if_pos ⟨e, hv⟩]
  ·rw [if_neg e, if_neg (fun h => e h.1)]
 | none =>
  dsimp only
  cases hp : parsedN s L with
  | none => rfl
  | some T =>
   exfalso
   have hv := parsedN_valid hp
   unfold parsedN at hp
   cases hq : npt s 30 L 0 with
   | none => rw [hq] at hp; cases hp
   | some x =>
    rw [hq] at hp
    dsimp only at hp
    split at hp
    ·rename_i hh
     simp only [Option.some.injEq] at hp
     subst hp
     have := full_nct s 30 L 0 0 x hq hv.1 (by have := hv.2.2; omega) (by
      rw [hh.1]
      exact dg_no (b := 0) (by unfold byteAt; rw [dif_neg (by omega)]) (by omega))
     rw [hc] at this
     cases this
    ·cases hp
end Go.Proofs.YtjdmfegdgpbkgaaGreat
