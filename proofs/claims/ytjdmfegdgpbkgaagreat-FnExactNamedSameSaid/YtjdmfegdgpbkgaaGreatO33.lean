/-
  NmP.
-/
import Derived.Test.YtjdmfegdgpbkgaaGreatO31
import Derived.Test.YtjdmfegdgpbkgaaGreatO32
namespace Go.Proofs.YtjdmfegdgpbkgaaGreat
set_option linter.unusedVariables false
def colon (s : ByteArray) (a : Nat) : Bool := ltr (byteAt s a) && byteAt s (a + 1) == 58
theorem ltr_lt {s : ByteArray} {a : Nat} (h : ltr (byteAt s a) = true) : a < s.size := by
 unfold ltr at h
 simp only [decide_eq_true_eq] at h
 exact byte_lt rfl (by omega)
theorem colon_lt {s : ByteArray} {a : Nat} (h : colon s a = true) : a + 1 < s.size := by
 unfold colon at h
 rw [Bool.and_eq_true] at h
 exact byte_lt (eq_of_beq h.2) (by decide)
def bindKind (b : Nat) : Int := if b = 62 then 3 else if b = 42 then 13 else 0
def nptRound (s : ByteArray) (f : List Int → Nat → Option (Tm × Nat)) (L : List Int) (a : Nat) : Option (Tm × Nat) :=
 match f L (if colon s a = true then a + 2 else a) with
 | none => none
 | some x => if x.2 < s.size then (match f (if colon s a = true then (byteAt s a : Int) :: L else L) (x.2 + 1) with
  | none => none
  | some y => if (if colon s a = true then bindKind (byteAt s x.2) else if byteAt s x.2 = 32 then 5 else 0) ≠ 0 ∧ y.2 < s.size ∧ byteAt s y.2 = 41 then
    some (.mk (if colon s a = true then bindKind (byteAt s x.2) else if byteAt s x.2 = 32 then 5 else 0) 0 [x.1, y.1], y.2 + 1) else none) else none
def nptFun (s : ByteArray) (f : List Int → Nat → Option (Tm × Nat)) (L : List Int) (a : Nat) : Option (Tm × Nat) :=
 if colon s a = true then
  match f L (a + 2) with
  | none => none
  | some x => if x.2 < s.size ∧ byteAt s x.2 = 93 then (f ((byteAt s a : Int) :: L) (x.2 + 1)).map fun y => (.mk 4 0 [x.1, y.1], y.2) else none
 else none
def nVar (L : List Int) (b : Int) : Option Nat := match nfind L b with
 | none => none
 | some k => if k ≤ 20 then some k else none
def npt (s : ByteArray) : Nat → List Int → Nat → Option (Tm × Nat)
 | 0, _, _ => none
 | d + 1, L, a => if a < s.size then
   if byteAt s a = 42 ∨ byteAt s a = 78 ∨ byteAt s a = 48 then pt s (d + 1) a
   else if byteAt s a = 43 ∨ byteAt s a = 33 ∨ byteAt s a = 94 ∨ byteAt s a = 95 then (npt s d L (a + 1)).map fun x => (.mk (preKind (byteAt s a)) 0 [x.1], x.2)
   else if byteAt s a = 40 then nptRound s (npt s d) L (a + 1)
   else if byteAt s a = 91 then nptFun s (npt s d) L (a + 1)
   else if ltr (byteAt s a) = true then (nVar L (byteAt s a)).map fun (k : Nat) => (.mk 1 (k : Int) [], a + 1)
   else ptBlock s (npt s d L) a
  else none
def nctRound (s : ByteArray) (f : List Int → Nat → Nat → Option (Tm × Nat × Nat)) (L : List Int) (a c : Nat) : Option (Tm × Nat × Nat) :=
 if colon s a = true then
  match f L (a + 2) c with
  | none => none
  | some x => if bindKind (byteAt s x.2.1) = 0 then none else match f ((byteAt s a : Int) :: L) (x.2.1 + 1) x.2.2 with
   | none => none
   | some y => if byteAt s y.2.1 = 41 then some (.mk (bindKind (byteAt s x.2.1)) 0 [x.1, y.1], y.2.1 + 1, y.2.2) else none
 else ctNode s (f L) 5 [32, 41] a c
def nctFun (s : ByteArray) (f : List Int → Nat → Nat → Option (Tm × Nat × Nat)) (L : List Int) (a c : Nat) : Option (Tm × Nat × Nat) :=
 if colon s a = true then
  match f L (a + 2) c with
  | none => none
  | some x => if byteAt s x.2.1 = 93 then (f ((byteAt s a : Int) :: L) (x.2.1 + 1) x.2.2).map fun y => (.mk 4 0 [x.1, y.1], y.2.1, y.2.2) else none
 else none
def nct (s : ByteArray) : Nat → List Int → Nat → Nat → Option (Tm × Nat × Nat)
 | 0, _, _, _ => none
 | d + 1, L, a, c => if 400 ≤ c then none
   else if ltr (byteAt s a) = true then (nVar L (byteAt s a)).map fun (k : Nat) => (.mk 1 (k : Int) [], a + 1, c + 1)
   else if byteAt s a = 40 then nctRound s (nct s d) L (a + 1) (c + 1)
   else if byteAt s a = 91 then nctFun s (nct s d) L (a + 1) (c + 1)
   else ctPlain s (nct s d L) (byteAt s a) (a + 1) (c + 1)
theorem ltr_not {b : Nat} (h : b < 97 ∨ 122 < b) : ltr (b : Int) = false := by unfold ltr; rw [decide_eq_false_iff_not]; omega
theorem ltr_in {b : Nat} (h : ltr (b : Int) = true) : 97 ≤ b ∧ b ≤ 122 := by unfold ltr at h; rw [decide_eq_true_iff] at h; omega
theorem bindKind_lt {s : ByteArray} {a : Nat} (h : bindKind (byteAt s a) ≠ 0) : a < s.size ∧ (byteAt s a < 48 ∨ 57 < byteAt s a) ∧ arity (bindKind (byteAt s a)) = 2 ∧ 0 ≤ mostN (bindKind (byteAt s a)) := by
 unfold bindKind at h ⊢
 by_cases h1 : byteAt s a = 62
 ·rw [if_pos h1]; exact ⟨byte_lt h1 (by decide), by omega, rfl, by decide⟩
 ·by_cases h2 : byteAt s a = 42
  ·rw [if_neg h1, if_pos h2]; exact ⟨byte_lt h2 (by decide), by omega, rfl, by decide⟩
  ·rw [if_neg h1, if_neg h2] at h; exact absurd rfl h
theorem nVar_le {L : List Int} {b : Int} {k : Nat} (h : nVar L b = some k) : k ≤ 20 := by
 unfold nVar at h
 split at h
 ·cases h
 ·split at h
  ·simp only [Option.some.injEq] at h; omega
  ·cases h
theorem sound_plain {s : ByteArray} {g : Nat → Option (Tm × Nat)} {f : Nat → Nat → Option (Tm × Nat × Nat)} (ih : SoundAt g f) {a c : Nat} {x : Tm × Nat × Nat} {d : Nat} (hc : c < 400) (h : ctPlain s f (byteAt s a) (a + 1) (c + 1) = some x) :
  (byteAt s a = 42 ∨ byteAt s a = 78 ∨ byteAt s a = 48 → pt s (d + 1) a = some (x.1, x.2.1)) ∧
  (byteAt s a = 43 ∨ byteAt s a = 33 ∨ byteAt s a = 94 ∨ byteAt s a = 95 → (g (a + 1)).map (fun x => (Tm.mk (preKind (byteAt s a)) 0 [x.1], x.2)) = some (x.1, x.2.1)) ∧
  (¬ (byteAt s a = 42 ∨ byteAt s a = 78 ∨ byteAt s a = 48) → ¬ (byteAt s a = 43 ∨ byteAt s a = 33 ∨ byteAt s a = 94 ∨ byteAt s a = 95) → ptBlock s g a = some (x.1, x.2.1)) ∧
  a < s.size ∧ x.2.2 = c + x.1.size ∧ x.1.allOk ∧ x.2.2 ≤ 400 ∧ a < x.2.1 := by
 have hlt : ∀ b, byteAt s a = b → b ≠ 0 → a < s.size := fun b h1 h2 => byte_lt h1 h2
 have hpre : ∀ b k, byteAt s a = b → (b = 43 ∨ b = 33 ∨ b = 94 ∨ b = 95) → preKind b = k → arity k = 1 → 0 ≤ mostN k → ctNode s f k [0] (a + 1) (c + 1) = some x → _ := fun b k hb hor hk ha hm hn => by
  obtain ⟨g1, g2, g3, g4, g5⟩ := sound_one ih ha hm hn
  exact (show (byteAt s a = 42 ∨ byteAt s a = 78 ∨ byteAt s a = 48 → pt s (d + 1) a = some (x.1, x.2.1)) ∧
   (byteAt s a = 43 ∨ byteAt s a = 33 ∨ byteAt s a = 94 ∨ byteAt s a = 95 → (g (a + 1)).map (fun x => (Tm.mk (preKind (byteAt s a)) 0 [x.1], x.2)) = some (x.1, x.2.1)) ∧
   (¬ (byteAt s a = 42 ∨ byteAt s a = 78 ∨ byteAt s a = 48) → ¬ (byteAt s a = 43 ∨ byteAt s a = 33 ∨ byteAt s a = 94 ∨ byteAt s a = 95) → ptBlock s g a = some (x.1, x.2.1)) ∧
   a < s.size ∧ x.2.2 = c + x.1.size ∧ x.1.allOk ∧ x.2.2 ≤ 400 ∧ a < x.2.1 from
   ⟨fun h => by omega, fun _ => by rw [hb, hk]; exact g1, fun _ h => by omega, hlt b hb (by omega), by omega, g3, g4 (by omega), by omega⟩)
 have hblk : ∀ b k m last st, byteAt s a = b → (b = 60 ∨ b = 123 ∨ b = 124 ∨ (b = 64 ∧ byteAt s (a + 1) = 60)) → blockKind b = k → blockLast b = last → (if k = 9 then 4 else 3) = m + 1 → arity k = ((m + 1 : Nat) : Int) → last ≠ 0 → 0 ≤ mostN k → (if b = 64 then a + 2 else a + 1) = st → ctNode s f k (List.replicate m 44 ++ [last]) st (c + 1) = some x →
   (byteAt s a = 42 ∨ byteAt s a = 78 ∨ byteAt s a = 48 → pt s (d + 1) a = some (x.1, x.2.1)) ∧
   (byteAt s a = 43 ∨ byteAt s a = 33 ∨ byteAt s a = 94 ∨ byteAt s a = 95 → (g (a + 1)).map (fun x => (Tm.mk (preKind (byteAt s a)) 0 [x.1], x.2)) = some (x.1, x.2.1)) ∧
   (¬ (byteAt s a = 42 ∨ byteAt s a = 78 ∨ byteAt s a = 48) → ¬ (byteAt s a = 43 ∨ byteAt s a = 33 ∨ byteAt s a = 94 ∨ byteAt s a = 95) → ptBlock s g a = some (x.1, x.2.1)) ∧
   a < s.size ∧ x.2.2 = c + x.1.size ∧ x.1.allOk ∧ x.2.2 ≤ 400 ∧ a < x.2.1 := fun b k m last st hb hor hk hla hm ha hl0 hmo hst hn => by
  unfold ctNode at hn
  obtain ⟨y, hy, rfl⟩ := Option.map_eq_some_iff.1 hn
  obtain ⟨g1, g2, g3, g4, g5, g6⟩ := sound_ends ih last hl0 m _ _ _ hy
  have hk0 : ¬ k = 0 := by rintro rfl; rcases hor with rfl | rfl | rfl | ⟨rfl, -⟩ <;> simp [blockKind] at hk
  refine ⟨fun h => by omega, fun h => by omega, fun _ _ => ?_, hlt b hb (by omega), by simp [Tm.size]; omega, ?_, g4 (by omega), ?_⟩
  ·unfold ptBlock
   rw [hb, hk, hla, hm, hst, if_neg hk0, if_neg (by omega), g1]
   rfl
  ·rw [Tm.allOk]
   exact ⟨⟨by rw [ha, g6], Int.le_refl _, hmo⟩, g3⟩
  ·dsimp only; split at hst <;> omega
 unfold ctPlain at h
 by_cases b42 : byteAt s a = 42
 ·rw [if_pos b42] at h
  obtain ⟨g1, g2, g3, g4, g5⟩ := sound_num (numC_3 s (a + 1)) rfl rfl (fun x h => ptNum_ge h) h
  exact ⟨fun _ => by rw [pt, if_pos (hlt _ b42 (by decide)), if_neg (by omega), if_pos b42, g1], fun h => by omega, fun h => absurd (Or.inl b42) h, hlt _ b42 (by decide), by omega, g3, by omega, by omega⟩
 rw [if_neg b42] at h
 by_cases b78 : byteAt s a = 78
 ·rw [if_pos b78] at h
  simp only [Option.some.injEq] at h
  subst h
  exact ⟨fun _ => by rw [pt, if_pos (hlt _ b78 (by decide)), if_neg (by omega), if_neg b42, if_pos b78], fun h => by omega, fun h => absurd (Or.inr (Or.inl b78)) h, hlt _ b78 (by decide), by simp [Tm.size, sizes], by rw [Tm.allOk]; exact ⟨⟨rfl, Int.le_refl _, by decide⟩, trivial⟩, by dsimp only; omega, by dsimp only; omega⟩
 rw [if_neg b78] at h
 by_cases b48 : byteAt s a = 48
 ·rw [if_pos b48] at h
  simp only [Option.some.injEq] at h
  subst h
  exact ⟨fun _ => by rw [pt, if_pos (hlt _ b48 (by decide)), if_neg (by omega), if_neg b42, if_neg b78, if_pos b48], fun h => by omega, fun h => absurd (Or.inr (Or.inr b48)) h, hlt _ b48 (by decide), by simp [Tm.size, sizes], by rw [Tm.allOk]; exact ⟨⟨rfl, Int.le_refl _, by decide⟩, trivial⟩, by dsimp only; omega, by dsimp only; omega⟩
 rw [if_neg b48] at h
 by_cases b43 : byteAt s a = 43
 ·rw [if_pos b43] at h; exact hpre 43 8 b43 (by decide) rfl rfl (by decide) h
 rw [if_neg b43] at h
 by_cases b60 : byteAt s a = 60
 ·rw [if_pos b60] at h; exact hblk 60 9 3 62 (a + 1) b60 (Or.inl rfl) rfl rfl rfl rfl (by decide) (by decide) rfl h
 rw [if_neg b60] at h
 by_cases b123 : byteAt s a = 123
 ·rw [if_pos b123] at h; exact hblk 123 10 2 125 (a + 1) b123 (Or.inr (Or.inl rfl)) rfl rfl rfl rfl (by decide) (by decide) rfl h
 rw [if_neg b123] at h
 by_cases b33 : byteAt s a = 33
 ·rw [if_pos b33] at h; exact hpre 33 11 b33 (by decide) rfl rfl (by decide) h
 rw [if_neg b33] at h
 by_cases b64 : byteAt s a = 64
 ·rw [if_pos b64] at h
  by_cases b60' : byteAt s (a + 1) = 60
  ·rw [if_pos b60'] at h
   exact hblk 64 12 2 62 (a + 2) b64 (Or.inr (Or.inr (Or.inr ⟨rfl, b60'⟩))) rfl rfl rfl rfl (by decide) (by decide) rfl h
  ·rw [if_neg b60'] at h; cases h
 rw [if_neg b64] at h
 by_cases b124 : byteAt s a = 124
 ·rw [if_pos b124] at h; exact hblk 124 14 2 124 (a + 1) b124 (Or.inr (Or.inr (Or.inl rfl))) rfl rfl rfl rfl (by decide) (by decide) rfl h
 rw [if_neg b124] at h
 by_cases b94 : byteAt s a = 94
 ·rw [if_pos b94] at h; exact hpre 94 15 b94 (by decide) rfl rfl (by decide) h
 rw [if_neg b94] at h
 by_cases b95 : byteAt s a = 95
 ·rw [if_pos b95] at h; exact hpre 95 16 b95 (by decide) rfl rfl (by decide) h
 rw [if_neg b95] at h
 cases h
theorem sound_nct (s : ByteArray) : ∀ d L, SoundAt (npt s d L) (nct s d L)
 | 0, L => fun a c x h => by rw [nct] at h; cases h
 | d + 1, L => fun a c x h => by
  have ih := sound_nct s d
  rw [nct] at h
  by_cases hc : 400 ≤ c
  ·rw [if_pos hc] at h; cases h
  rw [if_neg hc] at h
  by_cases hl : ltr (byteAt s a) = true
  ·rw [if_pos hl] at h
   have hb := ltr_in hl
   obtain ⟨k, hk, rfl⟩ := Option.map_eq_some_iff.1 h
   have hk20 := nVar_le hk
   refine ⟨?_, by simp [Tm.size, sizes], by rw [Tm.allOk]; exact ⟨⟨rfl, by omega, by show (k : Int) ≤ 20; omega⟩, trivial⟩, fun _ => by dsimp only; omega, by dsimp only; omega⟩
   rw [npt, if_pos (ltr_lt hl), if_neg (by omega), if_neg (by omega), if_neg (by omega), if_neg (by omega), if_pos hl, hk]
   rfl
  rw [if_neg hl] at h
  by_cases h40 : byteAt s a = 40
  ·rw [if_pos h40] at h
   have hnp : npt s (d + 1) L a = nptRound s (npt s d) L (a + 1) := by rw [npt, if_pos (byte_lt h40 (by decide)), if_neg (by omega), if_neg (by omega), if_pos h40]
   rw [hnp]
   unfold nctRound at h
   by_cases hco : colon s (a + 1) = true
   ·rw [if_pos hco] at h
    cases hf : nct s d L (a + 1 + 2) (c + 1) with
    | none => rw [hf] at h; cases h
    | some y =>
     rw [hf] at h
     dsimp only at h
     obtain ⟨p1, p2, p3, p4, p5⟩ := ih L _ _ _ hf
     by_cases hr : bindKind (byteAt s y.2.1) = 0
     ·rw [if_pos hr] at h; cases h
     rw [if_neg hr] at h
     obtain ⟨b1, b2, b3, b4⟩ := bindKind_lt hr
     cases hf2 : nct s d ((byteAt s (a + 1) : Int) :: L) (y.2.1 + 1) y.2.2 with
     | none => rw [hf2] at h; cases h
     | some z =>
      rw [hf2] at h
      dsimp only at h
      obtain ⟨q1, q2, q3, q4, q5⟩ := ih _ _ _ _ hf2
      by_cases he : byteAt s z.2.1 = 41
      ·rw [if_pos he] at h
       simp only [Option.some.injEq] at h
       subst h
       refine ⟨?_, by simp [Tm.size, sizes]; omega, ?_, fun _ => q4 (p4 (by omega)), by dsimp only; omega⟩
       ·unfold nptRound
        simp only [hco, if_true]
        rw [p1]
        dsimp only
        rw [if_pos b1, q1]
        dsimp only
        rw [if_pos ⟨hr, byte_lt he (by decide), he⟩]
       ·rw [Tm.allOk]
        exact ⟨⟨b3, Int.le_refl _, b4⟩, by simp [allsOk, p3, q3]⟩
      ·rw [if_neg he] at h; cases h
   ·rw [if_neg hco] at h
    have hco' : colon s (a + 1) = false := by simpa using hco
    unfold ctNode at h
    obtain ⟨y, hy, rfl⟩ := Option.map_eq_some_iff.1 h
    rw [ctEnds] at hy
    cases hf : nct s d L (a + 1) (c + 1) with
    | none => rw [hf] at hy; cases hy
    | some u =>
     rw [hf] at hy
     dsimp only at hy
     rw [if_neg (by decide)] at hy
     obtain ⟨p1, p2, p3, p4, p5⟩ := ih L _ _ _ hf
     by_cases hb : byteAt s u.2.1 = 32
     ·rw [if_pos hb] at hy
      obtain ⟨z, hz, rfl⟩ := Option.map_eq_some_iff.1 hy
      rw [ctEnds] at hz
      cases hf2 : nct s d L (u.2.1 + 1) u.2.2 with
      | none => rw [hf2] at hz; cases hz
      | some v =>
       rw [hf2] at hz
       dsimp only at hz
       rw [if_neg (by decide)] at hz
       obtain ⟨q1, q2, q3, q4, q5⟩ := ih L _ _ _ hf2
       by_cases he : byteAt s v.2.1 = 41
       ·rw [if_pos he, ctEnds] at hz
        simp only [Option.map_some, Option.some.injEq] at hz
        subst hz
        refine ⟨?_, by simp [Tm.size, sizes]; omega, ?_, fun _ => q4 (p4 (by omega)), by dsimp only; omega⟩
        ·unfold nptRound
         simp only [hco', Bool.false_eq_true, if_false]
         rw [p1]
         dsimp only
         rw [if_pos (byte_lt hb (by decide)), q1]
         dsimp only
         rw [if_pos hb, if_pos ⟨by decide, byte_lt he (by decide), he⟩]
        ·rw [Tm.allOk]
         exact ⟨⟨rfl, Int.le_refl _, by decide⟩, by simp [allsOk, p3, q3]⟩
       ·rw [if_neg he] at hz; cases hz
     ·rw [if_neg hb] at hy; cases hy
  rw [if_neg h40] at h
  by_cases h91 : byteAt s a = 91
  ·rw [if_pos h91] at h
   have hnp : npt s (d + 1) L a = nptFun s (npt s d) L (a + 1) := by rw [npt, if_pos (byte_lt h91 (by decide)), if_neg (by omega), if_neg (by omega), if_neg (by omega), if_pos h91]
   rw [hnp]
   unfold nctFun at h
   by_cases hco : colon s (a + 1) = true
   ·rw [if_pos hco] at h
    cases hf : nct s d L (a + 1 + 2) (c + 1) with
    | none => rw [hf] at h; cases h
    | some y =>
     rw [hf] at h
     dsimp only at h
     obtain ⟨p1, p2, p3, p4, p5⟩ := ih L _ _ _ hf
     by_cases hb : byteAt s y.2.1 = 93
     ·rw [if_pos hb] at h
      obtain ⟨z, hz, rfl⟩ := Option.map_eq_some_iff.1 h
      obtain ⟨q1, q2, q3, q4, q5⟩ := ih _ _ _ _ hz
      refine ⟨?_, by simp [Tm.size, sizes]; omega, ?_, fun _ => q4 (p4 (by omega)), by dsimp only; omega⟩
      ·unfold nptFun
       rw [if_pos hco, p1]
       dsimp only
       rw [if_pos ⟨byte_lt hb (by decide), hb⟩, q1]
       rfl
      ·rw [Tm.allOk]
       exact ⟨⟨rfl, Int.le_refl _, by decide⟩, by simp [allsOk, p3, q3]⟩
     ·rw [if_neg hb] at h; cases h
   ·rw [if_neg hco] at h; cases h
  rw [if_neg h91] at h
  obtain ⟨s1, s2, s3, s4, s5, s6, s7, s8⟩ := sound_plain (d := d) (ih L) (by omega) h
  refine ⟨?_, s5, s6, fun _ => s7, s8⟩
  rw [npt, if_pos s4]
  by_cases h1 : byteAt s a = 42 ∨ byteAt s a = 78 ∨ byteAt s a = 48
  ·rw [if_pos h1]; exact s1 h1
  rw [if_neg h1]
  by_cases h2 : byteAt s a = 43 ∨ byteAt s a = 33 ∨ byteAt s a = 94 ∨ byteAt s a = 95
  ·rw [if_pos h2]; exact s2 h2
  rw [if_neg h2, if_neg h40, if_neg h91, if_neg hl]
  exact s3 h1 h2
end Go.Proofs.YtjdmfegdgpbkgaaGreat
