/-
  Shifts, substitutions and renamings in plain words: how they go together, what they do to sizes, to occurrences and to limits.
-/
import Derived.Test.YteeafpnjpcgfaaaGreatSub
namespace Go.Proofs.YteeafpnjpcgfaaaGreat

theorem under_succ (k : Int) (i : Nat) : 0 ≤ under k i := (under_01 k i).1

-- limits and occurrences

mutual
theorem Tm.times_past : ∀ (t : Tm) (b x : Int), t.most b ≤ x → 0 ≤ x → t.times (x + b) = 0
  | .mk k n l, b, x, h, hx => by
    rw [Tm.most] at h
    rw [Tm.times, timesL_past l k 0 b x (by omega) hx, if_neg]
    · rfl
    · rintro ⟨rfl, rfl⟩
      rw [if_pos ⟨rfl, by omega⟩] at h
      omega
theorem timesL_past : ∀ (l : List Tm) (k : Int) (i : Nat) (b x : Int), mostL k l i b ≤ x → 0 ≤ x → timesL k l i (x + b) = 0
  | [], _, _, _, _, _, _ => by rw [timesL]
  | t :: l, k, i, b, x, h, hx => by
    rw [mostL] at h
    rw [timesL, Int.add_assoc, Tm.times_past t (b + under k i) x (by omega) hx, timesL_past l k (i + 1) b x (by omega) hx]
    rfl
end

mutual
theorem Tm.times_last : ∀ (t : Tm) (b : Int), 0 < t.most b → 0 < t.times (t.most b - 1 + b)
  | .mk k n l, b, h => by
    have hl := timesL_last l k 0 b
    have hb := timesL_bd l k 0
    rw [Tm.most] at h ⊢
    rw [Tm.times]
    by_cases hk : k = 1 ∧ b ≤ n
    · rw [if_pos hk] at h ⊢
      by_cases hm : mostL k l 0 b ≤ n - b + 1
      · rw [show max (n - b + 1) (mostL k l 0 b) = n - b + 1 by omega, if_pos ⟨hk.1, by omega⟩]
        have := hb (n - b + 1 - 1 + b)
        omega
      · rw [show max (n - b + 1) (mostL k l 0 b) = mostL k l 0 b by omega]
        have := hl (by omega)
        split <;> omega
    · rw [if_neg hk] at h ⊢
      rw [show max 0 (mostL k l 0 b) = mostL k l 0 b by omega]
      have := hl (by omega)
      split <;> omega
theorem timesL_last : ∀ (l : List Tm) (k : Int) (i : Nat) (b : Int), 0 < mostL k l i b → 0 < timesL k l i (mostL k l i b - 1 + b)
  | [], _, _, _, h => by rw [mostL] at h; omega
  | t :: l, k, i, b, h => by
    have h1 := Tm.times_last t (b + under k i)
    have h2 := timesL_last l k (i + 1) b
    rw [mostL] at h ⊢
    rw [timesL]
    have b1 := fun x => (Tm.times_bd t x).1
    have b2 := fun x => (timesL_bd l k (i + 1) x).1
    by_cases hm : mostL k l (i + 1) b ≤ t.most (b + under k i)
    · rw [show max (t.most (b + under k i)) (mostL k l (i + 1) b) = t.most (b + under k i) by omega, Int.add_assoc]
      have := h1 (by omega)
      have := b2 (t.most (b + under k i) - 1 + b)
      omega
    · rw [show max (t.most (b + under k i)) (mostL k l (i + 1) b) = mostL k l (i + 1) b by omega]
      have := h2 (by omega)
      have := b1 (mostL k l (i + 1) b - 1 + b + under k i)
      omega
end

-- shifts

mutual
theorem Tm.shift_size (e : Int) : ∀ (t : Tm) (c : Int), (t.shift e c).size = t.size
  | .mk k n l, c => by rw [Tm.shift, Tm.size, Tm.size, shiftL_sizes e l k 0 c]
theorem shiftL_sizes (e : Int) : ∀ (l : List Tm) (k : Int) (i : Nat) (c : Int), sizes (shiftL e k l i c) = sizes l
  | [], _, _, _ => by rw [shiftL]
  | t :: l, k, i, c => by rw [shiftL, sizes, sizes, Tm.shift_size e t, shiftL_sizes e l]
end

mutual
/-- Two shifts are one. -/
theorem Tm.shift_shift (e f : Int) : ∀ (t : Tm) (c : Int), t.keeps e c → (t.shift e c).shift f c = t.shift (e + f) c
  | .mk k n l, c, h => by
    rw [Tm.keeps] at h
    rw [Tm.shift, Tm.shift, Tm.shift, shiftL_shiftL e f l k 0 c h.2]
    congr 1
    by_cases hk : k = 1 ∧ c ≤ n
    · rw [if_pos hk, if_pos ⟨hk.1, h.1 hk⟩, if_pos hk]; omega
    · rw [if_neg hk, if_neg hk, if_neg hk]
theorem shiftL_shiftL (e f : Int) : ∀ (l : List Tm) (k : Int) (i : Nat) (c : Int), keepsL e k l i c → shiftL f k (shiftL e k l i c) i c = shiftL (e + f) k l i c
  | [], _, _, _, _ => by rw [shiftL, shiftL, shiftL]
  | t :: l, k, i, c, h => by
    rw [keepsL] at h
    rw [shiftL, shiftL, shiftL, Tm.shift_shift e f t _ h.1, shiftL_shiftL e f l k _ c h.2]
end

mutual
theorem Tm.shift_zero : ∀ (t : Tm) (c : Int), t.shift 0 c = t
  | .mk k n l, c => by
    rw [Tm.shift, shiftL_zero l k 0 c]
    congr 1
    split <;> omega
theorem shiftL_zero : ∀ (l : List Tm) (k : Int) (i : Nat) (c : Int), shiftL 0 k l i c = l
  | [], _, _, _ => by rw [shiftL]
  | t :: l, k, i, c => by rw [shiftL, Tm.shift_zero t, shiftL_zero l]
end

mutual
theorem Tm.keeps_back (e : Int) : ∀ (t : Tm) (c : Int), t.keeps e c → (t.shift e c).keeps (-e) c
  | .mk k n l, c, h => by
    rw [Tm.keeps] at h
    rw [Tm.shift, Tm.keeps]
    refine ⟨?_, keepsL_back e l k 0 c h.2⟩
    rintro ⟨rfl, hk⟩
    by_cases hn : c ≤ n
    · rw [if_pos ⟨rfl, hn⟩]; omega
    · rw [if_neg (fun e => hn e.2)] at hk; omega
theorem keepsL_back (e : Int) : ∀ (l : List Tm) (k : Int) (i : Nat) (c : Int), keepsL e k l i c → keepsL (-e) k (shiftL e k l i c) i c
  | [], _, _, _, _ => by rw [shiftL, keepsL]; trivial
  | t :: l, k, i, c, h => by
    rw [keepsL] at h
    rw [shiftL, keepsL]
    exact ⟨Tm.keeps_back e t _ h.1, keepsL_back e l k _ c h.2⟩
end

mutual
theorem Tm.keeps_nonneg {e : Int} (he : 0 ≤ e) : ∀ (t : Tm) (c : Int), t.keeps e c
  | .mk k n l, c => by rw [Tm.keeps]; exact ⟨fun h => by omega, keepsL_nonneg he l k 0 c⟩
theorem keepsL_nonneg {e : Int} (he : 0 ≤ e) : ∀ (l : List Tm) (k : Int) (i : Nat) (c : Int), keepsL e k l i c
  | [], _, _, _ => by rw [keepsL]; trivial
  | t :: l, k, i, c => by rw [keepsL]; exact ⟨Tm.keeps_nonneg he t _, keepsL_nonneg he l k _ c⟩
end

mutual
theorem Tm.times_shift (e : Int) : ∀ (t : Tm) (c x : Int), t.keeps e c → (x < c → (t.shift e c).times x = t.times x) ∧ (c ≤ x → c ≤ x + e → (t.shift e c).times (x + e) = t.times x) ∧ (c ≤ x → x + e < c → t.times x = 0)
  | .mk k n l, c, x, h => by
    rw [Tm.keeps] at h
    obtain ⟨h1, h2, h3⟩ := timesL_shift e l k 0 c x h.2
    have hk := h.1
    rw [Tm.shift, Tm.times, Tm.times, Tm.times]
    refine ⟨fun hx => ?_, fun hx hx' => ?_, fun hx hx' => ?_⟩
    · rw [h1 hx]
      congr 1
      by_cases e1 : k = 1 ∧ c ≤ n
      · have := hk e1
        rw [if_pos e1, if_neg (by omega), if_neg (by omega)]
      · rw [if_neg e1]
    · rw [h2 hx hx']
      congr 1
      by_cases e1 : k = 1 ∧ c ≤ n
      · rw [if_pos e1]
        by_cases e2 : n = x
        · rw [if_pos ⟨e1.1, by omega⟩, if_pos ⟨e1.1, e2⟩]
        · rw [if_neg (by omega), if_neg (by omega)]
      · rw [if_neg e1, if_neg (by omega), if_neg (by omega)]
    · rw [h3 hx hx', if_neg]
      · rfl
      · rintro ⟨rfl, rfl⟩
        have := hk ⟨rfl, hx⟩
        omega
theorem timesL_shift (e : Int) : ∀ (l : List Tm) (k : Int) (i : Nat) (c x : Int), keepsL e k l i c → (x < c → timesL k (shiftL e k l i c) i x = timesL k l i x) ∧ (c ≤ x → c ≤ x + e → timesL k (shiftL e k l i c) i (x + e) = timesL k l i x) ∧ (c ≤ x → x + e < c → timesL k l i x = 0)
  | [], _, _, _, _, _ => by simp [shiftL, timesL]
  | t :: l, k, i, c, x, h => by
    rw [keepsL] at h
    obtain ⟨h1, h2, h3⟩ := timesL_shift e l k (i + 1) c x h.2
    obtain ⟨g1, g2, g3⟩ := Tm.times_shift e t (c + under k i) (x + under k i) h.1
    rw [shiftL, timesL, timesL, timesL]
    refine ⟨fun hx => by rw [h1 hx, g1 (by omega)], fun hx hx' => ?_, fun hx hx' => by rw [h3 hx hx', g3 (by omega) (by omega)]; rfl⟩
    rw [h2 hx hx', show x + e + under k i = x + under k i + e by omega, g2 (by omega) (by omega)]
end

mutual
theorem Tm.most_shift (e : Int) : ∀ (t : Tm) (b : Int), t.keeps e b → (t.most b = 0 → t.shift e b = t) ∧ (0 < t.most b → (t.shift e b).most b = t.most b + e ∧ 0 < t.most b + e) ∧ 0 ≤ t.most b
  | .mk k n l, b, h => by
    rw [Tm.keeps] at h
    obtain ⟨h1, h2, h3⟩ := mostL_shift e l k 0 b h.2
    have hk := h.1
    rw [Tm.shift, Tm.most, Tm.most]
    by_cases e1 : k = 1 ∧ b ≤ n
    · have e2 : k = 1 ∧ b ≤ n + e := ⟨e1.1, hk e1⟩
      simp only [if_pos e1, if_pos e2]
      refine ⟨fun hm => by omega, fun hm => ?_, by omega⟩
      by_cases hz : mostL k l 0 b = 0
      · rw [h1 hz, hz]; omega
      · obtain ⟨h4, h5⟩ := h2 (by omega)
        rw [h4]; omega
    · simp only [if_neg e1]
      refine ⟨fun hm => by rw [h1 (by omega)], fun hm => ?_, by omega⟩
      obtain ⟨h4, h5⟩ := h2 (by omega)
      rw [h4]; omega
theorem mostL_shift (e : Int) : ∀ (l : List Tm) (k : Int) (i : Nat) (b : Int), keepsL e k l i b → (mostL k l i b = 0 → shiftL e k l i b = l) ∧ (0 < mostL k l i b → mostL k (shiftL e k l i b) i b = mostL k l i b + e ∧ 0 < mostL k l i b + e) ∧ 0 ≤ mostL k l i b
  | [], _, _, _, _ => by rw [shiftL, mostL]; exact ⟨fun _ => rfl, fun h => by omega, by omega⟩
  | t :: l, k, i, b, h => by
    rw [keepsL] at h
    obtain ⟨h1, h2, h3⟩ := mostL_shift e l k (i + 1) b h.2
    obtain ⟨g1, g2, g3⟩ := Tm.most_shift e t (b + under k i) h.1
    rw [shiftL, mostL, mostL]
    refine ⟨fun hm => by rw [h1 (by omega), g1 (by omega)], fun hm => ?_, by omega⟩
    by_cases ha : t.most (b + under k i) = 0
    · rw [g1 ha, ha]
      obtain ⟨h4, h5⟩ := h2 (by omega)
      rw [h4]; omega
    · obtain ⟨g4, g5⟩ := g2 (by omega)
      rw [g4]
      by_cases hz : mostL k l (i + 1) b = 0
      · rw [h1 hz, hz]; omega
      · obtain ⟨h4, h5⟩ := h2 (by omega)
        rw [h4]; omega
end

-- substitutions

mutual
theorem Tm.subst_shift (u : Tm) : ∀ (t : Tm) (x d : Int), (t.shift 1 x).subst u x d = t
  | .mk k n l, x, d => by
    rw [Tm.shift, Tm.subst, substL_shift u l k 0 x d]
    by_cases hk : k = 1 ∧ x ≤ n
    · rw [if_pos hk, if_neg (by omega), if_pos ⟨hk.1, by omega⟩, Int.add_sub_cancel]
    · rw [if_neg hk, if_neg (by omega), if_neg (by omega)]
theorem substL_shift (u : Tm) : ∀ (l : List Tm) (k : Int) (i : Nat) (x d : Int), substL u k (shiftL 1 k l i x) i x d = l
  | [], _, _, _, _ => by rw [shiftL, substL]
  | t :: l, k, i, x, d => by rw [shiftL, substL, Tm.subst_shift u t, substL_shift u l]
end

mutual
theorem Tm.times_room : ∀ (t : Tm) (x : Int), (t.shift 1 x).times x = 0
  | .mk k n l, x => by
    rw [Tm.shift, Tm.times, timesL_room l k 0 x, if_neg]
    · rfl
    · rintro ⟨rfl, h⟩
      by_cases hn : x ≤ n
      · rw [if_pos ⟨rfl, hn⟩] at h; omega
      · rw [if_neg (fun e => hn e.2)] at h; omega
theorem timesL_room : ∀ (l : List Tm) (k : Int) (i : Nat) (x : Int), timesL k (shiftL 1 k l i x) i x = 0
  | [], _, _, _ => by rw [shiftL, timesL]
  | t :: l, k, i, x => by rw [shiftL, timesL, Tm.times_room t, timesL_room l]; rfl
end

mutual
theorem Tm.subst_none (u : Tm) : ∀ (t : Tm) (x d : Int), t.times x = 0 → (t.subst u x d).shift 1 x = t
  | .mk k n l, x, d, h => by
    have h1 := (timesL_bd l k 0 x).1
    rw [Tm.times] at h
    have h2 : ¬ (k = 1 ∧ n = x) := fun e => by rw [if_pos e] at h; omega
    rw [if_neg h2] at h
    rw [Tm.subst, if_neg h2, Tm.shift, substL_none u l k 0 x d (by omega)]
    congr 1
    by_cases e1 : k = 1 ∧ x < n
    · rw [if_pos e1, if_pos ⟨e1.1, by omega⟩]; omega
    · rw [if_neg e1, if_neg (by omega)]
theorem substL_none (u : Tm) : ∀ (l : List Tm) (k : Int) (i : Nat) (x d : Int), timesL k l i x = 0 → shiftL 1 k (substL u k l i x d) i x = l
  | [], _, _, _, _, _ => by rw [substL, shiftL]
  | t :: l, k, i, x, d, h => by
    have h1 := (timesL_bd l k (i + 1) x).1
    have h2 := (Tm.times_bd t (x + under k i)).1
    rw [timesL] at h
    rw [substL, shiftL, Tm.subst_none u t _ _ (by omega), substL_none u l k _ x d (by omega)]
end

mutual
theorem Tm.subst_size (u : Tm) : ∀ (t : Tm) (x d : Int), t.allOk → ((t.subst u x d).size : Int) = t.size + t.times x * (u.size - 1)
  | .mk k n l, x, d, h => by
    rw [Tm.allOk] at h
    rw [Tm.subst, Tm.times, Tm.size]
    by_cases e : k = 1 ∧ n = x
    · obtain ⟨rfl, rfl⟩ := e
      obtain rfl := var_kids h.1
      rw [if_pos ⟨rfl, rfl⟩, if_pos ⟨rfl, rfl⟩, timesL, sizes, Tm.shift_size]
      simp only [Int.add_zero, Int.one_mul]
      omega
    · rw [if_neg e, if_neg e, Tm.size, Int.zero_add]
      have := substL_size u l k 0 x d h.2
      omega
theorem substL_size (u : Tm) : ∀ (l : List Tm) (k : Int) (i : Nat) (x d : Int), allsOk l → (sizes (substL u k l i x d) : Int) = sizes l + timesL k l i x * (u.size - 1)
  | [], _, _, _, _, _ => by rw [substL, sizes, timesL]; omega
  | t :: l, k, i, x, d, h => by
    rw [allsOk] at h
    have h1 := Tm.subst_size u t (x + under k i) (d + under k i) h.1
    have h2 := substL_size u l k (i + 1) x d h.2
    rw [substL, sizes, sizes, timesL, Int.add_mul]
    omega
end

mutual
theorem Tm.subst_closed (u : Tm) : ∀ (t : Tm) (b d : Int), t.most b = 0 → t.subst u b d = t
  | .mk k n l, b, d, h => by
    have hs := fun h => substL_closed u l k 0 b d h
    have hb := mostL_ge l k 0 b
    rw [Tm.most] at h
    have e1 : ¬ (k = 1 ∧ b ≤ n) := fun e => by rw [if_pos e] at h; omega
    rw [if_neg e1] at h
    rw [Tm.subst, if_neg (by omega), if_neg (by omega), hs (by omega)]
theorem substL_closed (u : Tm) : ∀ (l : List Tm) (k : Int) (i : Nat) (b d : Int), mostL k l i b = 0 → substL u k l i b d = l
  | [], _, _, _, _, _ => by rw [substL]
  | t :: l, k, i, b, d, h => by
    have h1 := Tm.most_ge t (b + under k i)
    have h2 := mostL_ge l k (i + 1) b
    rw [mostL] at h
    rw [substL, Tm.subst_closed u t _ _ (by omega), substL_closed u l k _ b d (by omega)]
theorem Tm.most_ge : ∀ (t : Tm) (b : Int), 0 ≤ t.most b
  | .mk k n l, b => by have := mostL_ge l k 0 b; rw [Tm.most]; omega
theorem mostL_ge : ∀ (l : List Tm) (k : Int) (i : Nat) (b : Int), 0 ≤ mostL k l i b
  | [], _, _, _ => by rw [mostL]; omega
  | t :: l, k, i, b => by have := Tm.most_ge t (b + under k i); rw [mostL]; omega
end

mutual
/-- A shift of what was shifted far enough. -/
theorem Tm.shift_in (e d : Int) (hd : 0 ≤ d) : ∀ (t : Tm) (c0 c : Int), c0 ≤ c → c ≤ c0 + d → (t.shift d c0).shift e c = t.shift (d + e) c0
  | .mk k n l, c0, c, h0, h1 => by
    rw [Tm.shift, Tm.shift, Tm.shift, shiftL_in e d hd l k 0 c0 c h0 h1]
    congr 1
    by_cases hk : k = 1 ∧ c0 ≤ n
    · rw [if_pos hk, if_pos ⟨hk.1, by omega⟩, if_pos hk]; omega
    · rw [if_neg hk, if_neg hk, if_neg (by omega)]
theorem shiftL_in (e d : Int) (hd : 0 ≤ d) : ∀ (l : List Tm) (k : Int) (i : Nat) (c0 c : Int), c0 ≤ c → c ≤ c0 + d → shiftL e k (shiftL d k l i c0) i c = shiftL (d + e) k l i c0
  | [], _, _, _, _, _, _ => by rw [shiftL, shiftL, shiftL]
  | t :: l, k, i, c0, c, h0, h1 => by
    rw [shiftL, shiftL, shiftL, Tm.shift_in e d hd t _ _ (by omega) (by omega), shiftL_in e d hd l k _ c0 c h0 h1]
end

mutual
/-- A substitution below a shift. -/
theorem Tm.shift_subst (v : Tm) (e : Int) (he : 0 ≤ e) : ∀ (t : Tm) (c x d : Int), 0 ≤ c → c ≤ d → c ≤ x → (t.shift e c).subst v (x + e) (d + e) = (t.subst v x d).shift e c
  | .mk k n l, c, x, d, h0, h1, h2 => by
    rw [Tm.shift, Tm.subst, Tm.subst]
    by_cases hx : k = 1 ∧ n = x
    · rw [if_pos ⟨hx.1, by omega⟩, if_pos ⟨hx.1, by omega⟩, Tm.shift_in e d (by omega) v 0 c h0 (by omega)]
    · have hn : ¬ (k = 1 ∧ (if k = 1 ∧ c ≤ n then n + e else n) = x + e) := by
        rintro ⟨rfl, h⟩
        by_cases hc : c ≤ n
        · rw [if_pos ⟨rfl, hc⟩] at h
          exact hx ⟨rfl, by omega⟩
        · rw [if_neg (fun e => hc e.2)] at h
          omega
      rw [if_neg hn, if_neg hx, Tm.shift, shiftL_subst v e he l k 0 c x d h0 h1 h2]
      clear hn
      congr 1
      (repeat' split) <;> omega
theorem shiftL_subst (v : Tm) (e : Int) (he : 0 ≤ e) : ∀ (l : List Tm) (k : Int) (i : Nat) (c x d : Int), 0 ≤ c → c ≤ d → c ≤ x → substL v k (shiftL e k l i c) i (x + e) (d + e) = shiftL e k (substL v k l i x d) i c
  | [], _, _, _, _, _, _, _, _ => by rw [shiftL, substL, substL, shiftL]
  | t :: l, k, i, c, x, d, h0, h1, h2 => by
    have := under_succ k i
    rw [shiftL, substL, substL, shiftL, show x + e + under k i = x + under k i + e by omega, show d + e + under k i = d + under k i + e by omega,
      Tm.shift_subst v e he t _ _ _ (by omega) (by omega) (by omega), shiftL_subst v e he l k _ c x d h0 h1 h2]
end

mutual
/-- Room that a shift made is taken back by a substitution in it. -/
theorem Tm.subst_room (u : Tm) (b : Int) (hb : 0 ≤ b) : ∀ (t : Tm) (c d x : Int), c ≤ x → x ≤ c + b → (t.shift (b + 1) c).subst u x d = t.shift b c
  | .mk k n l, c, d, x, h0, h1 => by
    rw [Tm.shift, Tm.subst, Tm.shift, substL_room u b hb l k 0 c d x h0 h1]
    by_cases hk : k = 1 ∧ c ≤ n
    · rw [if_pos hk, if_neg (by omega), if_pos ⟨hk.1, by omega⟩, if_pos hk]
      congr 1; omega
    · rw [if_neg hk, if_neg (by omega), if_neg (by omega), if_neg hk]
theorem substL_room (u : Tm) (b : Int) (hb : 0 ≤ b) : ∀ (l : List Tm) (k : Int) (i : Nat) (c d x : Int), c ≤ x → x ≤ c + b → substL u k (shiftL (b + 1) k l i c) i x d = shiftL b k l i c
  | [], _, _, _, _, _, _, _ => by rw [shiftL, substL, shiftL]
  | t :: l, k, i, c, d, x, h0, h1 => by
    rw [shiftL, substL, shiftL, Tm.subst_room u b hb t _ _ _ (by omega) (by omega), substL_room u b hb l k _ c d x h0 h1]
end

mutual
/-- Substitutions commute. -/
theorem Tm.subst_subst (u v : Tm) (j : Int) (hj : 0 ≤ j) : ∀ (t : Tm) (b : Int), t.allOk → 0 ≤ b → (t.subst u b b).subst v (j + b) b = (t.subst (v.shift 1 0) (j + 1 + b) b).subst (u.subst v j 0) b b
  | .mk k n l, b, h, hb => by
    rw [Tm.allOk] at h
    have s1 : (Tm.mk k n l).subst u b b = if k = 1 ∧ n = b then u.shift b 0 else .mk k (if k = 1 ∧ b < n then n - 1 else n) (substL u k l 0 b b) := by rw [Tm.subst]
    have s2 : (Tm.mk k n l).subst (v.shift 1 0) (j + 1 + b) b = if k = 1 ∧ n = j + 1 + b then (v.shift 1 0).shift b 0 else .mk k (if k = 1 ∧ j + 1 + b < n then n - 1 else n) (substL (v.shift 1 0) k l 0 (j + 1 + b) b) := by rw [Tm.subst]
    rw [s1, s2]
    by_cases e1 : k = 1 ∧ n = b
    · obtain ⟨rfl, rfl⟩ := e1
      obtain rfl := var_kids h.1
      have e3 : ¬ ((1 : Int) = 1 ∧ n = j + 1 + n) := by omega
      have e4 : ¬ ((1 : Int) = 1 ∧ j + 1 + n < n) := by omega
      have := Tm.shift_subst v n hb u 0 j 0 (by omega) (by omega) hj
      rw [Int.zero_add] at this
      rw [if_pos ⟨rfl, rfl⟩, if_neg e3, if_neg e4, Tm.subst, if_pos ⟨rfl, rfl⟩, ← this]
    · rw [if_neg e1]
      by_cases e2 : k = 1 ∧ n = j + 1 + b
      · obtain ⟨rfl, rfl⟩ := e2
        obtain rfl := var_kids h.1
        have e3 : (1 : Int) = 1 ∧ b < j + 1 + b := by omega
        rw [if_pos e3, if_pos (⟨rfl, rfl⟩ : (1 : Int) = 1 ∧ j + 1 + b = j + 1 + b), Tm.subst, if_pos (⟨rfl, by omega⟩ : (1 : Int) = 1 ∧ j + 1 + b - 1 = j + b), Tm.shift_in b 1 (by omega) v 0 0 (by omega) (by omega), Int.add_comm 1 b, Tm.subst_room _ b hb v 0 b b (by omega) (by omega)]
      · rw [if_neg e2]
        have n1 : ¬ (k = 1 ∧ (if k = 1 ∧ b < n then n - 1 else n) = j + b) := by
          split <;> omega
        have n2 : ¬ (k = 1 ∧ (if k = 1 ∧ j + 1 + b < n then n - 1 else n) = b) := by
          split <;> omega
        rw [Tm.subst, if_neg n1, Tm.subst, if_neg n2, substL_substL u v j hj l k 0 b h.2 hb]
        clear n1 n2 s1 s2
        congr 1
        (repeat' split) <;> omega
theorem substL_substL (u v : Tm) (j : Int) (hj : 0 ≤ j) : ∀ (l : List Tm) (k : Int) (i : Nat) (b : Int), allsOk l → 0 ≤ b → substL v k (substL u k l i b b) i (j + b) b = substL (u.subst v j 0) k (substL (v.shift 1 0) k l i (j + 1 + b) b) i b b
  | [], _, _, _, _, _ => by rw [substL, substL, substL, substL]
  | t :: l, k, i, b, h, hb => by
    have := under_succ k i
    rw [allsOk] at h
    rw [substL, substL, substL, substL, Int.add_assoc j b, Int.add_assoc (j + 1) b, Tm.subst_subst u v j hj t _ h.1 (by omega), substL_substL u v j hj l k _ b h.2 hb]
end

-- renamings

mutual
theorem Tm.rename_size (N : Int → Int) : ∀ (t : Tm) (b : Int), (t.rename N b).size = t.size
  | .mk k n l, b => by rw [Tm.rename, Tm.size, Tm.size, renameL_sizes N l k 0 b]
theorem renameL_sizes (N : Int → Int) : ∀ (l : List Tm) (k : Int) (i : Nat) (b : Int), sizes (renameL N k l i b) = sizes l
  | [], _, _, _ => by rw [renameL]
  | t :: l, k, i, b => by rw [renameL, sizes, sizes, Tm.rename_size N t, renameL_sizes N l]
end

mutual
/-- Renamings compose; they ask what is below the limit alone. -/
theorem Tm.rename_rename (N M K : Int → Int) : ∀ (t : Tm) (b : Int), (∀ i, 0 ≤ i → i < t.most b → 0 ≤ N i ∧ K i = M (N i)) → (t.rename N b).rename M b = t.rename K b
  | .mk k n l, b, h => by
    rw [Tm.most] at h
    rw [Tm.rename, Tm.rename, Tm.rename, renameL_renameL N M K l k 0 b (fun i h0 h1 => h i h0 (by omega))]
    congr 1
    by_cases hk : k = 1 ∧ b ≤ n
    · rw [if_pos hk] at h
      have := h (n - b) (by omega) (by omega)
      rw [if_pos hk, if_pos hk, if_pos ⟨hk.1, by omega⟩, this.2, Int.add_sub_cancel]
    · rw [if_neg hk, if_neg hk, if_neg hk]
theorem renameL_renameL (N M K : Int → Int) : ∀ (l : List Tm) (k : Int) (i : Nat) (b : Int), (∀ j, 0 ≤ j → j < mostL k l i b → 0 ≤ N j ∧ K j = M (N j)) → renameL M k (renameL N k l i b) i b = renameL K k l i b
  | [], _, _, _, _ => by rw [renameL, renameL, renameL]
  | t :: l, k, i, b, h => by
    rw [mostL] at h
    rw [renameL, renameL, renameL, Tm.rename_rename N M K t _ (fun j h0 h1 => h j h0 (by omega)), renameL_renameL N M K l k _ b (fun j h0 h1 => h j h0 (by omega))]
end

mutual
/-- What a renaming does hangs on the names below the limit alone; a shift is one. -/
theorem Tm.rename_shift (e c : Int) (N : Int → Int) (hc : 0 ≤ c) : ∀ (t : Tm) (b : Int), (∀ i, 0 ≤ i → i < t.most b → N i = if c ≤ i then i + e else i) → t.rename N b = t.shift e (c + b)
  | .mk k n l, b, h => by
    rw [Tm.most] at h
    rw [Tm.rename, Tm.shift, renameL_shift e c N hc l k 0 b (fun i h0 h1 => h i h0 (by omega))]
    congr 1
    by_cases hk : k = 1 ∧ b ≤ n
    · rw [if_pos hk] at h
      rw [if_pos hk, h (n - b) (by omega) (by omega)]
      (repeat' split) <;> omega
    · rw [if_neg hk, if_neg (by omega)]
theorem renameL_shift (e c : Int) (N : Int → Int) (hc : 0 ≤ c) : ∀ (l : List Tm) (k : Int) (i : Nat) (b : Int), (∀ j, 0 ≤ j → j < mostL k l i b → N j = if c ≤ j then j + e else j) → renameL N k l i b = shiftL e k l i (c + b)
  | [], _, _, _, _ => by rw [renameL, shiftL]
  | t :: l, k, i, b, h => by
    rw [mostL] at h
    rw [renameL, shiftL, Tm.rename_shift e c N hc t _ (fun j h0 h1 => h j h0 (by omega)), renameL_shift e c N hc l k _ b (fun j h0 h1 => h j h0 (by omega)), Int.add_assoc]
end

theorem Tm.rename_same {N : Int → Int} {t : Tm} (h : ∀ i, 0 ≤ i → i < t.most 0 → N i = i) : t.rename N 0 = t := by
  rw [Tm.rename_shift 0 0 N (Int.le_refl 0) t 0 (fun i h0 h1 => by rw [h i h0 h1]; split <;> omega), Tm.shift_zero]

end Go.Proofs.YteeafpnjpcgfaaaGreat
