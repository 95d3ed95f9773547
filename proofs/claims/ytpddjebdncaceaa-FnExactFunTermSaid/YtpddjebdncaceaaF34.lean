/-
  CurQ.
-/
import Derived.Test.YtpddjebdncaceaaF30
import Derived.Test.YtpddjebdncaceaaF31
namespace Go.Proofs.Ytpddjebdncaceaa
set_option linter.unusedVariables false
def ctEnds (s : ByteArray) (f : Nat → Nat → Option (Tm × Nat × Nat)) : List Nat → Nat → Nat → Option (List Tm × Nat × Nat)
 | [], a, c => some ([], a, c)
 | e :: es, a, c => match f a c with
  | none => none
  | some x => if e = 0 then (ctEnds s f es x.2.1 x.2.2).map fun y => (x.1 :: y.1, y.2) else if byteAt s x.2.1 = e then (ctEnds s f es (x.2.1 + 1) x.2.2).map fun y => (x.1 :: y.1, y.2) else none
def ctNode (s : ByteArray) (f : Nat → Nat → Option (Tm × Nat × Nat)) (k : Int) (es : List Nat) (a c : Nat) : Option (Tm × Nat × Nat) := (ctEnds s f es a c).map fun y => (.mk k 0 y.1, y.2)
def ctRound (s : ByteArray) (f : Nat → Nat → Option (Tm × Nat × Nat)) (a c : Nat) : Option (Tm × Nat × Nat) :=
 match f a c with
 | none => none
 | some x => if roundKind (byteAt s x.2.1) = 0 then none else match f (x.2.1 + 1) x.2.2 with
  | none => none
  | some y => if byteAt s y.2.1 = 41 then some (.mk (roundKind (byteAt s x.2.1)) 0 [x.1, y.1], y.2.1 + 1, y.2.2) else none
def ctNum (s : ByteArray) (k : Int) (lim a c : Nat) : Option (Tm × Nat × Nat) := (numC s lim a).map fun x => (.mk k x.1 [], x.2, c)
def ctPlain (s : ByteArray) (f : Nat → Nat → Option (Tm × Nat × Nat)) (b a c : Nat) : Option (Tm × Nat × Nat) :=
 if b = 42 then ctNum s 2 3 a c
 else if b = 78 then some (.mk 6 0 [], a, c)
 else if b = 48 then some (.mk 7 0 [], a, c)
 else if b = 43 then ctNode s f 8 [0] a c
 else if b = 60 then ctNode s f 9 [44, 44, 44, 62] a c
 else if b = 123 then ctNode s f 10 [44, 44, 125] a c
 else if b = 33 then ctNode s f 11 [0] a c
 else if b = 64 then (if byteAt s a = 60 then ctNode s f 12 [44, 44, 62] (a + 1) c else none)
 else if b = 124 then ctNode s f 14 [44, 44, 124] a c
 else if b = 94 then ctNode s f 15 [0] a c
 else if b = 95 then ctNode s f 16 [0] a c
 else none
def ct (s : ByteArray) : Nat → Nat → Nat → Option (Tm × Nat × Nat)
 | 0, _, _ => none
 | d + 1, a, c => if 400 ≤ c then none
   else if byteAt s a = 35 then ctNum s 1 20 (a + 1) (c + 1)
   else if byteAt s a = 40 then ctRound s (ct s d) (a + 1) (c + 1)
   else if byteAt s a = 91 then ctNode s (ct s d) 4 [93, 0] (a + 1) (c + 1)
   else ctPlain s (ct s d) (byteAt s a) (a + 1) (c + 1)
def SoundAt (g : Nat → Option (Tm × Nat)) (f : Nat → Nat → Option (Tm × Nat × Nat)) : Prop :=
 ∀ a c x, f a c = some x → g a = some (x.1, x.2.1) ∧ x.2.2 = c + x.1.size ∧ x.1.allOk ∧ (c ≤ 400 → x.2.2 ≤ 400) ∧ a < x.2.1
theorem sound_ends {s : ByteArray} {g : Nat → Option (Tm × Nat)} {f : Nat → Nat → Option (Tm × Nat × Nat)} (h : SoundAt g f) (last : Nat) (hl : last ≠ 0) : ∀ (m a c : Nat) (y : List Tm × Nat × Nat), ctEnds s f (List.replicate m 44 ++ [last]) a c = some y →
  ptSer s g last (m + 1) a = some (y.1, y.2.1) ∧ y.2.2 = c + sizes y.1 ∧ allsOk y.1 ∧ (c ≤ 400 → y.2.2 ≤ 400) ∧ a < y.2.1 ∧ y.1.length = m + 1
 | 0, a, c, y, hy => by
  rw [List.replicate_zero, List.nil_append, ctEnds] at hy
  cases hf : f a c with
  | none => rw [hf] at hy; cases hy
  | some x =>
   rw [hf] at hy
   dsimp only at hy
   rw [if_neg hl] at hy
   obtain ⟨h1, h2, h3, h4, h5⟩ := h a c x hf
   split at hy
   ·rename_i hb
    rw [ctEnds] at hy
    simp only [Option.map_some, Option.some.injEq] at hy
    subst hy
    have hlt := byte_lt hb hl
    refine ⟨?_, by simp [sizes]; omega, by simp [allsOk, h3], h4, by dsimp only; omega, rfl⟩
    rw [ptSer, h1]
    dsimp only
    rw [if_pos ⟨hlt, by rw [if_pos rfl]; exact hb⟩, ptSer]
    rfl
   ·cases hy
 | m + 1, a, c, y, hy => by
  rw [List.replicate_succ, List.cons_append, ctEnds] at hy
  cases hf : f a c with
  | none => rw [hf] at hy; cases hy
  | some x =>
   rw [hf] at hy
   dsimp only at hy
   rw [if_neg (by decide)] at hy
   obtain ⟨h1, h2, h3, h4, h5⟩ := h a c x hf
   split at hy
   ·rename_i hb
    obtain ⟨z, hz, rfl⟩ := Option.map_eq_some_iff.1 hy
    obtain ⟨g1, g2, g3, g4, g5, g6⟩ := sound_ends h last hl m (x.2.1 + 1) x.2.2 z hz
    have hlt := byte_lt hb (by decide)
    refine ⟨?_, by dsimp only; rw [sizes]; omega, by rw [allsOk]; exact ⟨h3, g3⟩, fun hc => g4 (h4 hc), by dsimp only; omega, by rw [List.length_cons, g6]⟩
    rw [ptSer, h1]
    dsimp only
    rw [if_pos ⟨hlt, by rw [if_neg (by omega)]; exact hb⟩, g1]
    rfl
   ·cases hy
theorem sound_one {s : ByteArray} {g : Nat → Option (Tm × Nat)} {f : Nat → Nat → Option (Tm × Nat × Nat)} (h : SoundAt g f) {k : Int} {a c : Nat} {x : Tm × Nat × Nat} (hk : arity k = 1) (hm : 0 ≤ mostN k) (hy : ctNode s f k [0] a c = some x) :
  (g a).map (fun x => (Tm.mk k 0 [x.1], x.2)) = some (x.1, x.2.1) ∧ x.2.2 + 1 = c + x.1.size ∧ x.1.allOk ∧ (c ≤ 400 → x.2.2 ≤ 400) ∧ a < x.2.1 := by
 unfold ctNode at hy
 obtain ⟨z, hz, rfl⟩ := Option.map_eq_some_iff.1 hy
 rw [ctEnds] at hz
 cases hf : f a c with
 | none => rw [hf] at hz; cases hz
 | some y =>
  rw [hf] at hz
  dsimp only at hz
  rw [if_pos rfl, ctEnds] at hz
  simp only [Option.map_some, Option.some.injEq] at hz
  subst hz
  obtain ⟨h1, h2, h3, h4, h5⟩ := h a c y hf
  refine ⟨by rw [h1]; rfl, by simp [Tm.size, sizes]; omega, ?_, h4, h5⟩
  rw [Tm.allOk]
  exact ⟨⟨by rw [hk]; rfl, Int.le_refl _, hm⟩, by simp [allsOk, h3]⟩
theorem sound_num {s : ByteArray} {k : Int} {lim d a c : Nat} {x : Tm × Nat × Nat} (hn : ∀ x, numC s lim a = some x ↔ ptNum s a d = some x ∧ x.1 ≤ lim ∧ dg s x.2 = false) (hk : arity k = 0) (hm : mostN k = lim) (hge : ∀ x, ptNum s a d = some x → a ≤ x.2) (hy : ctNum s k lim a c = some x) :
  (ptNum s a d).map (fun x => (Tm.mk k x.1 [], x.2)) = some (x.1, x.2.1) ∧ x.2.2 + 1 = c + x.1.size ∧ x.1.allOk ∧ x.2.2 = c ∧ a ≤ x.2.1 := by
 unfold ctNum at hy
 obtain ⟨z, hz, rfl⟩ := Option.map_eq_some_iff.1 hy
 obtain ⟨h1, h2, h3⟩ := (hn z).1 hz
 refine ⟨by rw [h1]; rfl, by simp [Tm.size, sizes], ?_, rfl, hge z h1⟩
 rw [Tm.allOk]
 exact ⟨⟨by rw [hk]; rfl, by omega, by rw [hm]; omega⟩, by simp [allsOk]⟩
theorem ptNum_ge {s : ByteArray} {a d : Nat} {x : Nat × Nat} (h : ptNum s a d = some x) : a ≤ x.2 := by
 unfold ptNum at h
 split at h
 ·simp only [Option.some.injEq] at h; rw [← h]; dsimp only; omega
 ·cases h
theorem sound_ct (s : ByteArray) : ∀ d, SoundAt (pt s d) (ct s d)
 | 0 => fun a c x h => by rw [ct] at h; cases h
 | d + 1 => fun a c x h => by
  have ih := sound_ct s d
  rw [ct] at h
  by_cases hc : 400 ≤ c
  ·rw [if_pos hc] at h; cases h
  rw [if_neg hc] at h
  have hlt : ∀ b, byteAt s a = b → b ≠ 0 → a < s.size := fun b h1 h2 => byte_lt h1 h2
  by_cases h35 : byteAt s a = 35
  ·rw [if_pos h35] at h
   obtain ⟨g1, g2, g3, g4, g5⟩ := sound_num (numC_20 s (a + 1)) rfl rfl (fun x h => ptNum_ge h) h
   exact ⟨by rw [pt, if_pos (hlt _ h35 (by decide)), if_pos h35, g1], by omega, g3, fun _ => by omega, by omega⟩
  rw [if_neg h35] at h
  by_cases h40 : byteAt s a = 40
  ·rw [if_pos h40] at h
   unfold ctRound at h
   cases hf : ct s d (a + 1) (c + 1) with
   | none => rw [hf] at h; cases h
   | some y =>
    rw [hf] at h
    dsimp only at h
    obtain ⟨p1, p2, p3, p4, p5⟩ := ih _ _ _ hf
    by_cases hr : roundKind (byteAt s y.2.1) = 0
    ·rw [if_pos hr] at h; cases h
    rw [if_neg hr] at h
    cases hf2 : ct s d (y.2.1 + 1) y.2.2 with
    | none => rw [hf2] at h; cases h
    | some z =>
     rw [hf2] at h
     dsimp only at h
     obtain ⟨q1, q2, q3, q4, q5⟩ := ih _ _ _ hf2
     by_cases he : byteAt s z.2.1 = 41
     ·rw [if_pos he] at h
      simp only [Option.some.injEq] at h
      subst h
      have hzl := byte_lt he (by decide)
      have hyl : y.2.1 < s.size := by
       by_cases e : y.2.1 < s.size
       ·exact e
       ·exfalso; apply hr; unfold byteAt; rw [dif_neg e]; rfl
      refine ⟨?_, by simp [Tm.size, sizes]; omega, ?_, fun _ => q4 (p4 (by omega)), by dsimp only; omega⟩
      ·rw [pt, if_pos (hlt _ h40 (by decide)), if_neg h35, if_neg (by rw [h40]; decide), if_neg (by rw [h40]; decide), if_neg (by rw [h40]; decide), if_neg (by rw [h40]; decide), if_pos h40]
       unfold ptRound
       rw [p1]
       dsimp only
       rw [if_pos hyl, q1]
       dsimp only
       rw [if_pos ⟨hr, hzl, he⟩]
      ·rw [Tm.allOk]
       refine ⟨⟨?_, Int.le_refl _, ?_⟩, by simp [allsOk, p3, q3]⟩
       ·show arity (roundKind (byteAt s y.2.1)) = 2
        revert hr
        unfold roundKind
        split
        ·intro _; rfl
        split
        ·intro _; rfl
        split
        ·intro _; rfl
        ·intro h; exact absurd rfl h
       ·unfold mostN; split <;> (try split) <;> omega
     ·rw [if_neg he] at h; cases h
  rw [if_neg h40] at h
  by_cases h91 : byteAt s a = 91
  ·rw [if_pos h91] at h
   unfold ctNode at h
   obtain ⟨y, hy, rfl⟩ := Option.map_eq_some_iff.1 h
   rw [ctEnds] at hy
   cases hf : ct s d (a + 1) (c + 1) with
   | none => rw [hf] at hy; cases hy
   | some u =>
    rw [hf] at hy
    dsimp only at hy
    rw [if_neg (by decide)] at hy
    obtain ⟨p1, p2, p3, p4, p5⟩ := ih _ _ _ hf
    by_cases hb : byteAt s u.2.1 = 93
    ·rw [if_pos hb] at hy
     obtain ⟨z, hz, rfl⟩ := Option.map_eq_some_iff.1 hy
     rw [ctEnds] at hz
     cases hf2 : ct s d (u.2.1 + 1) u.2.2 with
     | none => rw [hf2] at hz; cases hz
     | some v =>
      rw [hf2] at hz
      dsimp only at hz
      rw [if_pos rfl, ctEnds] at hz
      simp only [Option.map_some, Option.some.injEq] at hz
      subst hz
      obtain ⟨q1, q2, q3, q4, q5⟩ := ih _ _ _ hf2
      refine ⟨?_, by simp [Tm.size, sizes]; omega, ?_, fun _ => q4 (p4 (by omega)), by dsimp only; omega⟩
      ·rw [pt, if_pos (hlt _ h91 (by decide)), if_neg h35, if_neg (by rw [h91]; decide), if_neg (by rw [h91]; decide), if_neg (by rw [h91]; decide), if_neg (by rw [h91]; decide), if_neg h40, if_pos h91]
       unfold ptLam
       rw [p1]
       dsimp only
       rw [if_pos ⟨byte_lt hb (by decide), hb⟩, q1]
       rfl
      ·rw [Tm.allOk]
       exact ⟨⟨rfl, Int.le_refl _, by decide⟩, by simp [allsOk, p3, q3]⟩
    ·rw [if_neg hb] at hy; cases hy
  rw [if_neg h91] at h
  have hpre : ∀ b k, byteAt s a = b → (b = 43 ∨ b = 33 ∨ b = 94 ∨ b = 95) → preKind b = k → arity k = 1 → 0 ≤ mostN k → ctNode s (ct s d) k [0] (a + 1) (c + 1) = some x → pt s (d + 1) a = some (x.1, x.2.1) ∧ x.2.2 = c + x.1.size ∧ x.1.allOk ∧ (c ≤ 400 → x.2.2 ≤ 400) ∧ a < x.2.1 := fun b k hb hor hk ha hm hn => by
   obtain ⟨g1, g2, g3, g4, g5⟩ := sound_one ih ha hm hn
   refine ⟨?_, by omega, g3, fun _ => g4 (by omega), by omega⟩
   rw [pt, if_pos (hlt b hb (by omega)), if_neg h35, if_neg (by omega), if_neg (by omega), if_neg (by omega), if_pos (by omega), hb, hk]
   exact g1
  have hblk : ∀ b k m last, byteAt s a = b → (b = 60 ∨ b = 123 ∨ b = 124) → blockKind b = k → blockLast b = last → (if k = 9 then 4 else 3) = m + 1 → arity k = ((m + 1 : Nat) : Int) → last ≠ 0 → 0 ≤ mostN k → ctNode s (ct s d) k (List.replicate m 44 ++ [last]) (a + 1) (c + 1) = some x → pt s (d + 1) a = some (x.1, x.2.1) ∧ x.2.2 = c + x.1.size ∧ x.1.allOk ∧ (c ≤ 400 → x.2.2 ≤ 400) ∧ a < x.2.1 := fun b k m last hb hor hk hla hm ha hl0 hmo hn => by
   unfold ctNode at hn
   obtain ⟨y, hy, rfl⟩ := Option.map_eq_some_iff.1 hn
   obtain ⟨g1, g2, g3, g4, g5, g6⟩ := sound_ends ih last hl0 m _ _ _ hy
   refine ⟨?_, by simp [Tm.size]; omega, ?_, fun _ => g4 (by omega), by dsimp only; omega⟩
   ·rw [pt, if_pos (hlt b hb (by omega)), if_neg h35, if_neg (by omega), if_neg (by omega), if_neg (by omega), if_neg (by omega), if_neg h40, if_neg h91]
    unfold ptBlock
    rw [hb, hk, hla, hm, if_neg (show ¬ k = 0 by rintro rfl; rcases hor with rfl | rfl | rfl <;> simp [blockKind] at hk), if_neg (by omega), if_neg (by omega), g1]
    rfl
   ·rw [Tm.allOk]
    exact ⟨⟨by rw [ha, g6], Int.le_refl _, hmo⟩, g3⟩
  unfold ctPlain at h
  by_cases b42 : byteAt s a = 42
  ·rw [if_pos b42] at h
   obtain ⟨g1, g2, g3, g4, g5⟩ := sound_num (numC_3 s (a + 1)) rfl rfl (fun x h => ptNum_ge h) h
   exact ⟨by rw [pt, if_pos (hlt _ b42 (by decide)), if_neg h35, if_pos b42, g1], by omega, g3, fun _ => by omega, by omega⟩
  rw [if_neg b42] at h
  by_cases b78 : byteAt s a = 78
  ·rw [if_pos b78] at h
   simp only [Option.some.injEq] at h
   subst h
   exact ⟨by rw [pt, if_pos (hlt _ b78 (by decide)), if_neg h35, if_neg b42, if_pos b78], by simp [Tm.size, sizes], by rw [Tm.allOk]; exact ⟨⟨rfl, Int.le_refl _, by decide⟩, trivial⟩, fun _ => by dsimp only; omega, by dsimp only; omega⟩
  rw [if_neg b78] at h
  by_cases b48 : byteAt s a = 48
  ·rw [if_pos b48] at h
   simp only [Option.some.injEq] at h
   subst h
   exact ⟨by rw [pt, if_pos (hlt _ b48 (by decide)), if_neg h35, if_neg b42, if_neg b78, if_pos b48], by simp [Tm.size, sizes], by rw [Tm.allOk]; exact ⟨⟨rfl, Int.le_refl _, by decide⟩, trivial⟩, fun _ => by dsimp only; omega, by dsimp only; omega⟩
  rw [if_neg b48] at h
  by_cases b43 : byteAt s a = 43
  ·rw [if_pos b43] at h; exact hpre 43 8 b43 (by decide) rfl rfl (by decide) h
  rw [if_neg b43] at h
  by_cases b60 : byteAt s a = 60
  ·rw [if_pos b60] at h; exact hblk 60 9 3 62 b60 (by decide) rfl rfl rfl rfl (by decide) (by decide) h
  rw [if_neg b60] at h
  by_cases b123 : byteAt s a = 123
  ·rw [if_pos b123] at h; exact hblk 123 10 2 125 b123 (by decide) rfl rfl rfl rfl (by decide) (by decide) h
  rw [if_neg b123] at h
  by_cases b33 : byteAt s a = 33
  ·rw [if_pos b33] at h; exact hpre 33 11 b33 (by decide) rfl rfl (by decide) h
  rw [if_neg b33] at h
  by_cases b64 : byteAt s a = 64
  ·rw [if_pos b64] at h
   by_cases b60' : byteAt s (a + 1) = 60
   ·rw [if_pos b60'] at h
    unfold ctNode at h
    obtain ⟨y, hy, rfl⟩ := Option.map_eq_some_iff.1 h
    obtain ⟨g1, g2, g3, g4, g5, g6⟩ := sound_ends ih 62 (by decide) 2 _ _ _ hy
    refine ⟨?_, by simp [Tm.size]; omega, ?_, fun _ => g4 (by omega), by dsimp only; omega⟩
    ·rw [pt, if_pos (hlt _ b64 (by decide)), if_neg h35, if_neg b42, if_neg b78, if_neg b48, if_neg (by omega), if_neg h40, if_neg h91]
     unfold ptBlock
     rw [b64, if_neg (by decide), if_neg (fun h => h.2 b60'), if_pos rfl]
     exact (by rw [show blockLast 64 = 62 from rfl, show (if blockKind 64 = 9 then 4 else 3) = 2 + 1 from rfl, g1]; rfl)
    ·rw [Tm.allOk]
     exact ⟨⟨by rw [g6]; rfl, Int.le_refl _, by decide⟩, g3⟩
   ·rw [if_neg b60'] at h; cases h
  rw [if_neg b64] at h
  by_cases b124 : byteAt s a = 124
  ·rw [if_pos b124] at h; exact hblk 124 14 2 124 b124 (by decide) rfl rfl rfl rfl (by decide) (by decide) h
  rw [if_neg b124] at h
  by_cases b94 : byteAt s a = 94
  ·rw [if_pos b94] at h; exact hpre 94 15 b94 (by decide) rfl rfl (by decide) h
  rw [if_neg b94] at h
  by_cases b95 : byteAt s a = 95
  ·rw [if_pos b95] at h; exact hpre 95 16 b95 (by decide) rfl rfl (by decide) h
  rw [if_neg b95] at h
  cases h
end Go.Proofs.Ytpddjebdncaceaa
