/-
  CurS.
-/
import Derived.Test.YtpddjebdncaceaaF39
namespace Go.Proofs.Ytpddjebdncaceaa
set_option linter.unusedVariables false
theorem ext_cat (s : ByteArray) {a b c : Nat} (h1 : a ≤ b) (h2 : b ≤ c) : s.extract a b ++ s.extract b c = s.extract a c := by
 apply ByteArray.ext
 rw [ByteArray.data_append, ByteArray.data_extract, ByteArray.data_extract, ByteArray.data_extract, Array.extract_append_extract]
 congr 1 <;> omega
theorem ext_step {s X : ByteArray} {a e b : Nat} (h : byteAt s a = b) (hb : b ≠ 0) (he : a + 1 ≤ e) (hX : s.extract (a + 1) e = X) : s.extract a e = ByteArray.mk #[UInt8.ofNat b] ++ X := by
 rw [← ext_cat s (Nat.le_succ a) he, ext_one h hb, hX]
theorem ext_last {s X : ByteArray} {a e b : Nat} (h : byteAt s e = b) (hb : b ≠ 0) (he : a ≤ e) (hX : s.extract a e = X) : s.extract a (e + 1) = X ++ ByteArray.mk #[UInt8.ofNat b] := by
 rw [← ext_cat s he (Nat.le_succ e), ext_one h hb, hX]
theorem ba_app (a b c : ByteArray) : a ++ b ++ c = a ++ (b ++ c) := by
 apply ByteArray.ext
 simp [ByteArray.data_append]
theorem joinN_one (x : ByteArray) (L : List ByteArray) : joinN (x :: L) 1 = x := by
 rw [joinN, if_neg (by omega), joinN]
 apply ByteArray.ext
 simp [ByteArray.data_append, kidS]
theorem joinN_cons (x : ByteArray) (L : List ByteArray) : ∀ q, joinN (x :: L) (q + 2) = x ++ (ByteArray.mk #[44] ++ joinN L (q + 1))
 | 0 => by
  rw [joinN, if_pos (by omega), joinN_one, joinN, if_neg (by omega), joinN]
  apply ByteArray.ext
  simp [ByteArray.data_append, kidS]
 | q + 1 => by
  rw [joinN, if_pos (by omega), joinN_cons x L q]
  conv => rhs; rw [joinN, if_pos (by omega)]
  have : kidS (x :: L) (q + 2) = kidS L (q + 1) := rfl
  rw [this, ba_app, ba_app, ba_app, ba_app]
def TextAt (s : ByteArray) (d : Nat) (g : Nat → Option (Tm × Nat)) : Prop := ∀ a x, g a = some x → x.1.allOk → s.extract a x.2 = x.1.txt ∧ x.1.hgt ≤ d ∧ a ≤ x.2
theorem text_ser {s : ByteArray} {d : Nat} {g : Nat → Option (Tm × Nat)} (h : TextAt s d g) (last : Nat) (hl : last ≠ 0) : ∀ (m a : Nat) (y : List Tm × Nat), ptSer s g last (m + 1) a = some y → allsOk y.1 →
  s.extract a y.2 = joinN (txtL y.1) (m + 1) ++ ByteArray.mk #[UInt8.ofNat last] ∧ hgts y.1 ≤ d ∧ a < y.2 ∧ y.1.length = m + 1
 | 0, a, y, hy, hok => by
  rw [ptSer] at hy
  cases hf : g a with
  | none => rw [hf] at hy; cases hy
  | some x =>
   rw [hf] at hy
   dsimp only at hy
   by_cases hb : x.2 < s.size ∧ byteAt s x.2 = (if 0 = 0 then last else 44)
   ·rw [if_pos hb] at hy
    rw [if_pos rfl] at hb
    rw [ptSer] at hy
    simp only [Option.map_some, Option.some.injEq] at hy
    subst hy
    simp only [allsOk] at hok
    obtain ⟨h1, h2, h3⟩ := h a x hf hok.1
    refine ⟨?_, by simp [hgts]; exact h2, by dsimp only; omega, rfl⟩
    rw [txtL, joinN_one]
    exact ext_last hb.2 hl h3 h1
   ·rw [if_neg hb] at hy; cases hy
 | m + 1, a, y, hy, hok => by
  rw [ptSer] at hy
  cases hf : g a with
  | none => rw [hf] at hy; cases hy
  | some x =>
   rw [hf] at hy
   dsimp only at hy
   by_cases hb : x.2 < s.size ∧ byteAt s x.2 = (if m + 1 = 0 then last else 44)
   ·rw [if_pos hb] at hy
    rw [if_neg (by omega)] at hb
    obtain ⟨z, hz, rfl⟩ := Option.map_eq_some_iff.1 hy
    simp only [allsOk] at hok
    obtain ⟨h1, h2, h3⟩ := h a x hf hok.1
    obtain ⟨g1, g2, g3, g4⟩ := text_ser h last hl m (x.2 + 1) z hz hok.2
    refine ⟨?_, by simp only [hgts]; omega, by dsimp only; omega, by rw [List.length_cons, g4]⟩
    rw [txtL, joinN_cons]
    show s.extract a z.2 = _
    rw [← ext_cat s h3 (show x.2 ≤ z.2 by omega), h1, ext_step hb.2 (by decide) (by omega) g1, ba_app, ba_app]
    rfl
   ·rw [if_neg hb] at hy; cases hy
theorem text_num {s : ByteArray} {a lim d : Nat} {x : Nat × Nat} (h : ptNum s a d = some x) (hd : d = 1 ∨ d = 2) : s.extract a x.2 = decS x.1 := by
 rcases hd with rfl | rfl
 ·rw [ptNum_one] at h
  split at h
  ·rename_i h0
   have hb := dg_iff.1 h0
   simp only [Option.some.injEq] at h
   subst h
   dsimp only
   rw [ext_one rfl (by omega), decS, if_pos (by omega), show 48 + (byteAt s a - 48) = byteAt s a by omega]
  ·cases h
 ·rw [ptNum_two] at h
  split at h
  ·rename_i h0
   have hb := dg_iff.1 h0
   split at h
   ·rename_i h1
    have hb1 := dg_iff.1 h1
    split at h
    ·cases h
    ·rename_i hne
     simp only [Option.some.injEq] at h
     subst h
     dsimp only
     rw [decS, if_neg (by omega), ext_step rfl (by omega) (by omega) (ext_one rfl (by omega))]
     have e1 : 48 + ((byteAt s a - 48) * 10 + (byteAt s (a + 1) - 48)) / 10 = byteAt s a := by omega
     have e2 : 48 + ((byteAt s a - 48) * 10 + (byteAt s (a + 1) - 48)) % 10 = byteAt s (a + 1) := by omega
     rw [e1, e2]
     apply ByteArray.ext
     simp [ByteArray.data_append]
   ·simp only [Option.some.injEq] at h
    subst h
    dsimp only
    rw [ext_one rfl (by omega), decS, if_pos (by omega), show 48 + (byteAt s a - 48) = byteAt s a by omega]
  ·cases h
theorem text_pt (s : ByteArray) : ∀ d, TextAt s d (pt s d)
 | 0 => fun a x h => by rw [pt] at h; cases h
 | d + 1 => fun a x h hok => by
  have ih := text_pt s d
  rw [pt] at h
  by_cases ha : a < s.size
  rotate_left
  ·rw [if_neg ha] at h; cases h
  rw [if_pos ha] at h
  split at h
  ·rename_i b
   obtain ⟨z, hz, rfl⟩ := Option.map_eq_some_iff.1 h
   have hge := ptNum_ge hz
   refine ⟨?_, by simp [Tm.hgt, hgts], by dsimp only; omega⟩
   rw [Tm.txt]
   exact ext_step b (by decide) hge (text_num (lim := 0) hz (Or.inr rfl))
  rename_i n35
  split at h
  ·rename_i b
   obtain ⟨z, hz, rfl⟩ := Option.map_eq_some_iff.1 h
   have hge := ptNum_ge hz
   refine ⟨?_, by simp [Tm.hgt, hgts], by dsimp only; omega⟩
   rw [Tm.txt]
   exact ext_step b (by decide) hge (text_num (lim := 0) hz (Or.inl rfl))
  rename_i n42
  split at h
  ·rename_i b
   simp only [Option.some.injEq] at h
   subst h
   exact ⟨ext_one b (by decide), by simp [Tm.hgt, hgts], by dsimp only; omega⟩
  rename_i n78
  split at h
  ·rename_i b
   simp only [Option.some.injEq] at h
   subst h
   exact ⟨ext_one b (by decide), by simp [Tm.hgt, hgts], by dsimp only; omega⟩
  rename_i n48
  split at h
  ·rename_i b
   obtain ⟨z, hz, rfl⟩ := Option.map_eq_some_iff.1 h
   simp only [Tm.allOk, allsOk] at hok
   obtain ⟨h1, h2, h3⟩ := ih (a + 1) z hz hok.2.1
   refine ⟨?_, by simp only [Tm.hgt, hgts]; omega, by dsimp only; omega⟩
   rw [Tm.txt, txtL, txtL]
   rcases b with b | b | b | b <;> (rw [b]; exact ext_step b (by decide) h3 h1)
  rename_i npre
  split at h
  ·rename_i b
   unfold ptRound at h
   cases hf : pt s d (a + 1) with
   | none => rw [hf] at h; cases h
   | some y =>
    rw [hf] at h
    dsimp only at h
    by_cases hyl : y.2 < s.size
    rotate_left
    ·rw [if_neg hyl] at h; cases h
    rw [if_pos hyl] at h
    cases hf2 : pt s d (y.2 + 1) with
    | none => rw [hf2] at h; cases h
    | some z =>
     rw [hf2] at h
     dsimp only at h
     split at h
     ·rename_i hc
      simp only [Option.some.injEq] at h
      subst h
      simp only [Tm.allOk, allsOk] at hok
      obtain ⟨h1, h2, h3⟩ := ih (a + 1) y hf hok.2.1
      obtain ⟨g1, g2, g3⟩ := ih (y.2 + 1) z hf2 hok.2.2.1
      refine ⟨?_, by simp only [Tm.hgt, hgts]; omega, by dsimp only; omega⟩
      have hkr : ∀ r, byteAt s y.2 = r → r ≠ 0 → s.extract a (z.2 + 1) = ByteArray.mk #[40] ++ (y.1.txt ++ (ByteArray.mk #[UInt8.ofNat r] ++ (z.1.txt ++ ByteArray.mk #[41]))) := fun r hr hr0 => by
       refine ext_step b (by decide) (by omega) ?_
       rw [← ext_cat s h3 (show y.2 ≤ z.2 + 1 by omega), h1]
       congr 1
       refine ext_step hr hr0 (by omega) ?_
       exact ext_last hc.2.2 (by decide) g3 g1
      have hr := hc.1
      unfold roundKind at hr
      rw [Tm.txt, txtL, txtL, txtL]
      by_cases e1 : byteAt s y.2 = 62
      ·rw [e1, hkr 62 e1 (by decide), show roundKind 62 = 3 from rfl]
       show _ = ByteArray.mk #[40] ++ y.1.txt ++ ByteArray.mk #[62] ++ z.1.txt ++ ByteArray.mk #[41]
       rw [ba_app, ba_app, ba_app]; rfl
      by_cases e2 : byteAt s y.2 = 42
      ·rw [e2, hkr 42 e2 (by decide), show roundKind 42 = 13 from rfl]
       show _ = ByteArray.mk #[40] ++ y.1.txt ++ ByteArray.mk #[42] ++ z.1.txt ++ ByteArray.mk #[41]
       rw [ba_app, ba_app, ba_app]; rfl
      by_cases e3 : byteAt s y.2 = 32
      ·rw [e3, hkr 32 e3 (by decide), show roundKind 32 = 5 from rfl]
       show _ = ByteArray.mk #[40] ++ y.1.txt ++ ByteArray.mk #[32] ++ z.1.txt ++ ByteArray.mk #[41]
       rw [ba_app, ba_app, ba_app]; rfl
      ·rw [if_neg e1, if_neg e2, if_neg e3] at hr; exact absurd rfl hr
     ·cases h
  rename_i n40
  split at h
  ·rename_i b
   unfold ptLam at h
   cases hf : pt s d (a + 1) with
   | none => rw [hf] at h; cases h
   | some y =>
    rw [hf] at h
    dsimp only at h
    split at h
    ·rename_i hc
     obtain ⟨z, hz, rfl⟩ := Option.map_eq_some_iff.1 h
     simp only [Tm.allOk, allsOk] at hok
     obtain ⟨h1, h2, h3⟩ := ih (a + 1) y hf hok.2.1
     obtain ⟨g1, g2, g3⟩ := ih (y.2 + 1) z hz hok.2.2.1
     refine ⟨?_, by simp only [Tm.hgt, hgts]; omega, by dsimp only; omega⟩
     rw [Tm.txt, txtL, txtL, txtL]
     show _ = ByteArray.mk #[91] ++ y.1.txt ++ ByteArray.mk #[93] ++ z.1.txt
     rw [ba_app, ba_app]
     refine ext_step b (by decide) (by dsimp only; omega) ?_
     show s.extract (a + 1) z.2 = _
     rw [← ext_cat s h3 (show y.2 ≤ z.2 by omega), h1]
     congr 1
     exact ext_step hc.2 (by decide) g3 g1
    ·cases h
  rename_i n91
  unfold ptBlock at h
  split at h
  ·cases h
  rename_i hk0
  split at h
  ·cases h
  rename_i h64
  obtain ⟨y, hy, rfl⟩ := Option.map_eq_some_iff.1 h
  simp only [Tm.allOk] at hok
  have hcase : byteAt s a = 60 ∨ byteAt s a = 123 ∨ byteAt s a = 124 ∨ byteAt s a = 64 := by
   unfold blockKind at hk0
   by_cases e1 : byteAt s a = 60
   ·exact Or.inl e1
   by_cases e2 : byteAt s a = 123
   ·exact Or.inr (Or.inl e2)
   by_cases e3 : byteAt s a = 124
   ·exact Or.inr (Or.inr (Or.inl e3))
   by_cases e4 : byteAt s a = 64
   ·exact Or.inr (Or.inr (Or.inr e4))
   ·rw [if_neg e1, if_neg e2, if_neg e3, if_neg e4] at hk0; exact absurd rfl hk0
  rcases hcase with b | b | b | b
  ·rw [b] at hy hok ⊢
   obtain ⟨g1, g2, g3, g4⟩ := text_ser ih 62 (by decide) 3 (a + 1) y hy hok.2
   refine ⟨?_, by simp only [Tm.hgt]; omega, by dsimp only; omega⟩
   rw [Tm.txt]
   show s.extract a y.2 = ByteArray.mk #[60] ++ joinN (txtL y.1) 4 ++ ByteArray.mk #[62]
   rw [ba_app]
   exact ext_step b (by decide) (by omega) g1
  ·rw [b] at hy hok ⊢
   obtain ⟨g1, g2, g3, g4⟩ := text_ser ih 125 (by decide) 2 (a + 1) y hy hok.2
   refine ⟨?_, by simp only [Tm.hgt]; omega, by dsimp only; omega⟩
   rw [Tm.txt]
   show s.extract a y.2 = ByteArray.mk #[123] ++ joinN (txtL y.1) 3 ++ ByteArray.mk #[125]
   rw [ba_app]
   exact ext_step b (by decide) (by omega) g1
  ·rw [b] at hy hok ⊢
   obtain ⟨g1, g2, g3, g4⟩ := text_ser ih 124 (by decide) 2 (a + 1) y hy hok.2
   refine ⟨?_, by simp only [Tm.hgt]; omega, by dsimp only; omega⟩
   rw [Tm.txt]
   show s.extract a y.2 = ByteArray.mk #[124] ++ joinN (txtL y.1) 3 ++ ByteArray.mk #[124]
   rw [ba_app]
   exact ext_step b (by decide) (by omega) g1
  ·have h60 : byteAt s (a + 1) = 60 := Classical.byContradiction fun hc => h64 ⟨b, hc⟩
   rw [b] at hy hok ⊢
   obtain ⟨g1, g2, g3, g4⟩ := text_ser ih 62 (by decide) 2 (a + 2) y hy hok.2
   refine ⟨?_, by simp only [Tm.hgt]; omega, by dsimp only; omega⟩
   rw [Tm.txt]
   show s.extract a y.2 = ByteArray.mk #[64, 60] ++ joinN (txtL y.1) 3 ++ ByteArray.mk #[62]
   rw [ba_app, ext_step b (by decide) (by omega) (ext_step h60 (by decide) (by omega) g1), ← ba_app]
   congr 1
theorem parsed_ct (s : ByteArray) : parsed s = match ct s 30 0 0 with
  | none => none
  | some x => if x.2.1 = s.size then some x.1 else none := by
 cases hc : ct s 30 0 0 with
 | some x =>
  obtain ⟨h1, h2, h3, h4, h5⟩ := sound_ct s 30 0 0 x hc
  obtain ⟨g1, g2, g3⟩ := text_pt s 30 0 _ h1 h3
  dsimp only at g1 g2 g3 ⊢
  unfold parsed
  rw [h1]
  dsimp only
  by_cases e : x.2.1 = s.size
  ·have hv : x.1.Valid := ⟨h3, g2, by have := h4 (by omega); omega⟩
   have htx : x.1.txt = s := by
    rw [← g1, e]
    apply ByteArray.ext
    rw [ByteArray.data_extract]
    show s.data.extract 0 s.data.size = _
    simp
   rw [if_pos e, if_pos ⟨by omega, e, by rw [fmtOf_yes hv, htx]⟩]
  ·rw [if_neg e, if_neg (fun h => e h.2.1)]
 | none =>
  dsimp only
  cases hp : parsed s with
  | none => rfl
  | some T =>
   exfalso
   obtain ⟨hv, htx⟩ := parsed_valid hp
   unfold parsed at hp
   cases hq : pt s 30 0 with
   | none => rw [hq] at hp; cases hp
   | some x =>
    rw [hq] at hp
    dsimp only at hp
    split at hp
    ·rename_i hh
     simp only [Option.some.injEq] at hp
     subst hp
     have := full_ct s 30 0 0 x hq hv.1 (by have := hv.2.2; omega) (by
      rw [hh.2.1]
      exact dg_no (b := 0) (by unfold byteAt; rw [dif_neg (by omega)]) (by omega))
     rw [hc] at this
     cases this
    ·cases hp
end Go.Proofs.Ytpddjebdncaceaa
