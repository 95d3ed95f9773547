/-
  CurB.
-/
import Derived.Test.YtpddjebdncaceaaF09
import Derived.Test.YtpddjebdncaceaaF32
namespace Go.Proofs.Ytpddjebdncaceaa
open Go.RowKit
set_option linter.unusedVariables false
theorem ext_head {s : ByteArray} {a : Nat} (h : a < s.size) : (s.extract a s.size).extract 0 1 = ByteArray.mk #[s[a]] := by
 apply ByteArray.ext
 apply Array.ext
 ·simp only [ByteArray.data_extract, Array.size_extract]
  have : s.data.size = s.size := rfl
  simp
  omega
 ·intro i h1 h2
  have hi : i = 0 := by simpa using h2
  subst hi
  have h3 : 0 < ((s.extract a s.size).extract 0 1).size := by rw [ByteArray.size_extract, ByteArray.size_extract]; omega
  have h4 : ((s.extract a s.size).extract 0 1)[0] = s[a] := by rw [ByteArray.getElem_extract, ByteArray.getElem_extract]; rfl
  exact h4
def endAt (s : ByteArray) (a e : Nat) : Bool := e == 0 || byteAt s a == e
theorem one_eq (x : UInt8) (e : Nat) (he : e < 256) : ((ByteArray.mk #[x]).toList == (ByteArray.mk #[UInt8.ofNat e]).toList) = (x.toNat == e) := by
 rw [ByteArray.toList_eq, ByteArray.toList_eq]
 show ([x] == [UInt8.ofNat e]) = (x.toNat == e)
 have h1 : (UInt8.ofNat e).toNat = e := by simp; omega
 generalize UInt8.ofNat e = y at *
 subst h1
 rw [Bool.eq_iff_iff]
 simp [UInt8.toNat_inj]
theorem pfx_end {s p : ByteArray} {a e : Nat} (ha : a ≤ s.size) (hp : EndIs p e) : pfx (s.extract a s.size) p = endAt s a e := by
 unfold pfx endAt
 rcases hp with ⟨rfl, rfl⟩ | ⟨h0, h1, rfl⟩
 ·have : (ByteArray.mk #[]).size = 0 := rfl
  simp [this]
 ·have hz : (ByteArray.mk #[UInt8.ofNat e]).size = 1 := rfl
  have he : (e == 0) = false := by simp; omega
  rw [hz, he, Bool.false_or]
  by_cases hlt : a < s.size
  ·have : decide (1 ≤ (s.extract a s.size).size) = true := by rw [ByteArray.size_extract]; simp; omega
   rw [this, ext_head hlt, one_eq _ _ h1, byteAt_eq hlt, Bool.true_and]
  ·have : decide (1 ≤ (s.extract a s.size).size) = false := by rw [ByteArray.size_extract]; simp; omega
   rw [this, byteAt_end (by omega), Bool.false_and]
   simp
   omega
set_option maxRecDepth 100000 in
theorem rd_take_any (g : Nat) (s p : ByteArray) (a c e : Nat) (fo : Value) (w : World) (h : Cur g s a c fo w) (ha : a ≤ s.size) (hs : s.size ≤ 1152921504606846976) (hp : EndIs p e) :
  Calls Try.prog 73 #[.pointer (some ⟨g, 0, none⟩), .string p] w (BoolW (endAt s a e) fun w' => Turn g w w' ∧ Cur g s (if endAt s a e = true ∧ e ≠ 0 then a + 1 else a) c fo w') := by
 obtain ⟨hg, c0, c1, c2, c3, cf⟩ := h.facts
 have hpz : p.size = if e = 0 then 0 else 1 := by
  rcases hp with ⟨rfl, rfl⟩ | ⟨h0, h1, rfl⟩
  ·rfl
  ·rw [if_neg (by omega)]; rfl
 have hpz1 : p.size ≤ 1 := by rw [hpz]; split <;> omega
 have HH := tuck fun w => rd_has_any (s.extract a s.size) p w (by rw [ByteArray.size_extract]; omega)
 rw [pfx_end ha hp] at HH
 have hsl1 : (a : Int) ≤ (s.size : Int) := by omega
 have hsl2 : (0 : Int) ≤ (a : Int) := by omega
 cases he : endAt s a e with
 | true =>
  rw [he] at HH
  have HP : Hid (∀ n, BoolW true (fun w' => Turn g w w' ∧ Cur g s (if true = true ∧ e ≠ 0 then a + 1 else a) c fo w') (.returned (.bool true)) ((w.drewN n).setCell ⟨g, 1, none⟩ (.int .i64 ((a : Int) + (p.size : Int))))) := tuck fun n => by
   refine ⟨rfl, (Turn.refl g w).drewN n |>.trans (Turn.set 1 (Or.inl rfl) _), ?_⟩
   have := (h.drewN n).set1 (a + p.size)
   have e2 : (if true = true ∧ e ≠ 0 then a + 1 else a) = a + p.size := by
    rw [hpz]
    by_cases e0 : e = 0
    ·rw [if_neg (by omega), if_pos e0]; rfl
    ·rw [if_pos ⟨rfl, e0⟩, if_neg e0]
   rw [e2]
   rwa [Int.natCast_add] at this
  generalize BoolW true (fun w' => Turn g w w' ∧ Cur g s (if true = true ∧ e ≠ 0 then a + 1 else a) c fo w') = post at *
  clear h hpz
  go_enter Try.func73, Try.ntmps73
  go_wp2_with fail
  go_quiet ((go_at_call 75; exact Calls.quiet_of_same (HH.out _)))
  go_wp2_with fail
  exact HP.out _
 | false =>
  rw [he] at HH
  have HP : Hid (∀ n, BoolW false (fun w' => Turn g w w' ∧ Cur g s (if false = true ∧ e ≠ 0 then a + 1 else a) c fo w') (.returned (.bool false)) (w.drewN n)) := tuck fun n => by
   refine ⟨rfl, (Turn.refl g w).drewN n, ?_⟩
   rw [if_neg (by simp)]
   exact h.drewN n
  generalize BoolW false (fun w' => Turn g w w' ∧ Cur g s (if false = true ∧ e ≠ 0 then a + 1 else a) c fo w') = post at *
  clear h hpz
  go_enter Try.func73, Try.ntmps73
  go_wp2_with fail
  go_quiet ((go_at_call 75; exact Calls.quiet_of_same (HH.out _)))
  go_wp2_with fail
  exact HP.out _
def RkPost (b : Nat) (w : World) (e : Ending) (w' : World) : Prop := e = .returned (.tuple #[.int .i64 (roundKind b), .bool (roundKind b != 0)]) ∧ w' = w
theorem rd_roundKind_any (b : Nat) (w : World) : Calls Try.prog 72 #[.int .u8 b] w (RkPost b w) := by
 have HP : Hid (∀ k o, k = roundKind b → o = (roundKind b != 0) → RkPost b w (.returned (.tuple #[.int .i64 k, .bool o])) w) := tuck fun k o h1 h2 => by rw [h1, h2]; exact ⟨rfl, rfl⟩
 generalize RkPost b w = post at *
 by_cases h1 : b = 62
 ·subst h1
  go_enter Try.func72, Try.ntmps72
  go_wp2_with fail
  exact HP.out _ _ (by decide) (by decide)
 by_cases h2 : b = 32
 ·subst h2
  go_enter Try.func72, Try.ntmps72
  go_wp2_with fail
  exact HP.out _ _ (by decide) (by decide)
 by_cases h3 : b = 42
 ·subst h3
  go_enter Try.func72, Try.ntmps72
  go_wp2_with fail
  exact HP.out _ _ (by decide) (by decide)
 ·have e1 : ((b : Int) == 62) = false := by simp; omega
  have e2 : ((b : Int) == 32) = false := by simp; omega
  have e3 : ((b : Int) == 42) = false := by simp; omega
  have HR : Hid (roundKind b = 0) := tuck (by unfold roundKind; rw [if_neg h1, if_neg h3, if_neg h2])
  clear h1 h2 h3
  go_enter Try.func72, Try.ntmps72
  go_wp2_with fail
  exact HP.out _ _ HR.out.symm (by rw [HR.out]; rfl)
theorem rd_isDigit_any (x : Int) (w : World) : Calls Try.prog 74 #[.int .u8 x] w (BoolW (decide (48 ≤ x ∧ x ≤ 57)) fun w' => w' = w) := by
 have HP : Hid (∀ v, v = decide (48 ≤ x ∧ x ≤ 57) → BoolW (decide (48 ≤ x ∧ x ≤ 57)) (fun w' => w' = w) (.returned (.bool v)) w) := tuck fun v h => by rw [h]; exact ⟨rfl, rfl⟩
 generalize BoolW (decide (48 ≤ x ∧ x ≤ 57)) (fun w' => w' = w) = post at *
 by_cases ha : 48 ≤ x
 ·have ha' : decide (48 ≤ x) = true := decide_eq_true ha
  go_enter Try.func74, Try.ntmps74
  go_wp2
  exact HP.out _ (by simp [ha])
 ·have ha' : decide (48 ≤ x) = false := decide_eq_false ha
  go_enter Try.func74, Try.ntmps74
  go_wp2
  exact HP.out _ (by simp; omega)
def atOf (g : Nat) (w : World) : Nat := match w.cell? ⟨g, 1, none⟩ with | some (.int _ k) => k.toNat | _ => 0
theorem Cur.at {g : Nat} {s : ByteArray} {a c : Nat} {fo : Value} {w : World} (h : Cur g s a c fo w) : atOf g w = a := by
 unfold atOf
 rw [h.facts.2.2.1]
 simp
def NumbPost (g : Nat) (s : ByteArray) (c : Nat) (fo : Value) (o : Option (Nat × Nat)) (w : World) (e : Ending) (w' : World) : Prop := Turn g w w' ∧ match o with
 | some x => e = .returned (.tuple #[.int .i64 x.1, .bool true]) ∧ Cur g s x.2 c fo w'
 | none => e = .returned (.tuple #[.int .i64 0, .bool false])
set_option maxRecDepth 100000 in
set_option maxHeartbeats 1600000 in
theorem rd_number_any (g : Nat) (s : ByteArray) (a c lim : Nat) (fo : Value) (w : World) (h : Cur g s a c fo w) (ha : a ≤ s.size) (hs : s.size ≤ 1152921504606846976) (hl : lim ≤ 20) :
  Calls Try.prog 71 #[.pointer (some ⟨g, 0, none⟩), .int .i64 lim] w (NumbPost g s c fo (numC s lim a) w) := by
 obtain ⟨hg, c0, c1, c2, c3, cf⟩ := h.facts
 have HY : Hid (∀ n aa w', numLoop s lim (s.size + 1 - a) 0 a = (n, aa) → ¬ (aa = a ∨ lim < n ∨ (a + 1 < aa ∧ byteAt s a = 48)) → Turn g w w' → Cur g s aa c fo w' → NumbPost g s c fo (numC s lim a) w (.returned (.tuple #[.int .i64 (n : Int), .bool true])) w') := tuck fun n aa w' h1 h2 h3 h4 => by
  unfold numC
  rw [h1, if_neg h2]
  exact ⟨h3, rfl, h4⟩
 have HN : Hid (∀ n aa w', numLoop s lim (s.size + 1 - a) 0 a = (n, aa) → (aa = a ∨ lim < n ∨ (a + 1 < aa ∧ byteAt s a = 48)) → Turn g w w' → NumbPost g s c fo (numC s lim a) w (.returned (.tuple #[.int .i64 0, .bool false])) w') := tuck fun n aa w' h1 h2 h3 => by
  unfold numC
  rw [h1, if_pos h2]
  exact ⟨h3, rfl⟩
 generalize NumbPost g s c fo (numC s lim a) w = post at *
 have HC := tuck h
 clear h c2 c3
 go_enter Try.func71, Try.ntmps71
 go_wp2_with fail
 clear c0 c1 cf hg
 go_loopw [7] (fun n wr => ∃ (k aa : Nat), n = .int .i64 k ∧ Cur g s aa c fo wr ∧ Turn g w wr ∧ a ≤ aa ∧ aa ≤ s.size ∧ k ≤ 400 ∧ (a < aa → a < s.size) ∧ numLoop s lim (s.size + 1 - a) 0 a = numLoop s lim (s.size + 1 - aa) k aa) (fun _ wr => s.size - atOf g wr)
 case atStart => exact ⟨0, a, rfl, HC.out, Turn.refl g w, Nat.le_refl _, ha, by omega, fun h => by omega, rfl⟩
 case round =>
  obtain ⟨k, aa, rfl, hcu, htu, hge, hle, hk, has, hnl⟩ := hrel
  obtain ⟨hg, c0, c1, c2, c3, cf⟩ := hcu.facts
  have HCU := tuck hcu
  have HTU := tuck htu
  have HNL := tuck hnl
  have HAS := tuck has
  clear hcu htu hnl c2 c3 has
  by_cases hlt : aa < s.size
  ·have hlti : decide ((aa : Int) < (s.size : Int)) = true := decide_eq_true (by omega)
   have hltn : decide (aa < s.size) = true := decide_eq_true hlt
   have hlti2 : (aa : Int) < (s.size : Int) := by omega
   have HB : Hid (byteAt s aa = s[aa].toNat) := tuck (byteAt_eq hlt)
   cases hd : dg s aa with
   | false =>
    have hdd : decide (48 ≤ (s[aa].toNat : Int) ∧ (s[aa].toNat : Int) ≤ 57) = false := by
     rw [decide_eq_false_iff_not]; intro hh
     have : dg s aa = true := dg_iff.2 (by rw [HB.out]; omega)
     rw [hd] at this; cases this
    have HD := tuck (fun W => rd_isDigit_any (s[aa].toNat : Int) W)
    rw [hdd] at HD
    have HST : Hid (numLoop s lim (s.size + 1 - a) 0 a = (k, aa)) := tuck (by rw [HNL.out, numLoop_stop (by rw [hd]; simp)])
    clear hd hdd
    go_wp2_with fail
    go_quiet ((go_at_call 74; exact Calls.quiet_of_same (HD.out _)))
    by_cases e1 : aa = a
    ·have f1 : ((aa : Int) - (a : Int) == 0) = true := by simp; omega
     go_wp2_with fail
     exact HN.out k aa _ HST.out (Or.inl e1) (HTU.out.drewN _)
    ·have f1 : ((aa : Int) - (a : Int) == 0) = false := by simp; omega
     by_cases e2 : lim < k
     ·have f2 : decide ((lim : Int) < (k : Int)) = true := decide_eq_true (by omega)
      have f3 : decide (lim < k) = true := decide_eq_true e2
      go_wp2_with fail
      exact HN.out k aa _ HST.out (Or.inr (Or.inl e2)) (HTU.out.drewN _)
     ·have f2 : decide ((lim : Int) < (k : Int)) = false := decide_eq_false (by omega)
      have f3 : decide (lim < k) = false := decide_eq_false e2
      by_cases e3 : a + 1 < aa
      ·have f4 : decide ((1 : Int) < (aa : Int) - (a : Int)) = true := decide_eq_true (by omega)
       have hss : a < s.size := HAS.out (by omega)
       have f5 : (a : Int) < (s.size : Int) := by omega
       have HB0 : Hid (byteAt s a = s[a].toNat) := tuck (byteAt_eq hss)
       by_cases e4 : byteAt s a = 48
       ·have f6 : ((s[a].toNat : Int) == 48) = true := by rw [← HB0.out, e4]; rfl
        go_wp2_with fail
        exact HN.out k aa _ HST.out (Or.inr (Or.inr ⟨e3, e4⟩)) (HTU.out.drewN _)
       ·have f6 : ((s[a].toNat : Int) == 48) = false := by rw [← HB0.out]; simp; omega
        go_wp2_with fail
        exact HY.out k aa _ HST.out (by omega) (HTU.out.drewN _) (HCU.out.drewN _)
      ·have f4 : decide ((1 : Int) < (aa : Int) - (a : Int)) = false := decide_eq_false (by omega)
       go_wp2_with fail
       exact HY.out k aa _ HST.out (by omega) (HTU.out.drewN _) (HCU.out.drewN _)
   | true =>
    have hdd : decide (48 ≤ (s[aa].toNat : Int) ∧ (s[aa].toNat : Int) ≤ 57) = true := by
     rw [decide_eq_true_iff]
     have := dg_iff.1 hd
     rw [HB.out] at this
     omega
    have HD := tuck (fun W => rd_isDigit_any (s[aa].toNat : Int) W)
    rw [hdd] at HD
    by_cases hkl : k ≤ lim
    ·have hkli : decide ((k : Int) ≤ (lim : Int)) = true := decide_eq_true (by omega)
     have hkln : decide (k ≤ lim) = true := decide_eq_true hkl
     have HST : Hid (numLoop s lim (s.size + 1 - a) 0 a = numLoop s lim (s.size + 1 - (aa + 1)) (10 * k + (byteAt s aa - 48)) (aa + 1)) := tuck (by rw [HNL.out, numLoop_step hd hkl])
     have hx := of_decide_eq_true hdd
     have hx0 : (48 : Int) ≤ (s[aa].toNat : Int) := hx.1
     have hx1 : (s[aa].toNat : Int) ≤ 57 := hx.2
     have hk10 : (k : Int) ≤ 20 := by omega
     have HSET : Hid (∀ m, Cur g s (aa + 1) c fo ((wr.drewN m).setCell ⟨g, 1, none⟩ (.int .i64 ((aa : Int) + 1)))) := tuck (fun m => by have := (HCU.out.drewN m).set1 (aa + 1); rwa [Int.natCast_succ] at this)
     clear hd hdd hx
     go_wp2_with fail
     go_quiet ((go_at_call 74; exact Calls.quiet_of_same (HD.out _)))
     go_wp2_with fail
     go_quiet (fail)
     go_wp2_with fail
     go_roundw
     case rel => exact ⟨10 * k + (byteAt s aa - 48), aa + 1, by rw [HB.out]; congr 1; omega, HSET.out _, HTU.out.trans (((Turn.refl g wr).drewN _).trans (Turn.set 1 (Or.inl rfl) _)), by omega, by omega, by rw [HB.out]; omega, fun _ => by omega, HST.out⟩
     case measure =>
      have h2 := HCU.out.at
      rw [(HSET.out _).at, h2]
      omega
    ·have hkli : decide ((k : Int) ≤ (lim : Int)) = false := decide_eq_false (by omega)
     have hkln : decide (k ≤ lim) = false := decide_eq_false hkl
     have HST : Hid (numLoop s lim (s.size + 1 - a) 0 a = (k, aa)) := tuck (by rw [HNL.out, numLoop_stop (by omega)])
     clear hd hdd
     go_wp2_with fail
     go_quiet ((go_at_call 74; exact Calls.quiet_of_same (HD.out _)))
     by_cases e1 : aa = a
     ·have f1 : ((aa : Int) - (a : Int) == 0) = true := by simp; omega
      go_wp2_with fail
      exact HN.out k aa _ HST.out (Or.inl e1) (HTU.out.drewN _)
     ·have f1 : ((aa : Int) - (a : Int) == 0) = false := by simp; omega
      have f2 : decide ((lim : Int) < (k : Int)) = true := decide_eq_true (by omega)
      have f3 : decide (lim < k) = true := decide_eq_true (by omega)
      go_wp2_with fail
      exact HN.out k aa _ HST.out (Or.inr (Or.inl (by omega))) (HTU.out.drewN _)
  ·have hlti : decide ((aa : Int) < (s.size : Int)) = false := decide_eq_false (by omega)
   have hltn : decide (aa < s.size) = false := decide_eq_false hlt
   have hd : dg s aa = false := by cases e : dg s aa with | false => rfl | true => exact absurd (dg_lt e) hlt
   have HST : Hid (numLoop s lim (s.size + 1 - a) 0 a = (k, aa)) := tuck (by rw [HNL.out, numLoop_stop (by rw [hd]; simp)])
   clear hd
   go_wp2_with fail
   go_quiet (fail)
   by_cases e1 : aa = a
   ·have f1 : ((aa : Int) - (a : Int) == 0) = true := by simp; omega
    go_wp2_with fail
    exact HN.out k aa _ HST.out (Or.inl e1) (HTU.out.drewN _)
   ·have f1 : ((aa : Int) - (a : Int) == 0) = false := by simp; omega
    by_cases e2 : lim < k
    ·have f2 : decide ((lim : Int) < (k : Int)) = true := decide_eq_true (by omega)
     have f3 : decide (lim < k) = true := decide_eq_true e2
     go_wp2_with fail
     exact HN.out k aa _ HST.out (Or.inr (Or.inl e2)) (HTU.out.drewN _)
    ·have f2 : decide ((lim : Int) < (k : Int)) = false := decide_eq_false (by omega)
     have f3 : decide (lim < k) = false := decide_eq_false e2
     by_cases e3 : a + 1 < aa
     ·have f4 : decide ((1 : Int) < (aa : Int) - (a : Int)) = true := decide_eq_true (by omega)
      have hss : a < s.size := HAS.out (by omega)
      have f5 : (a : Int) < (s.size : Int) := by omega
      have HB0 : Hid (byteAt s a = s[a].toNat) := tuck (byteAt_eq hss)
      by_cases e4 : byteAt s a = 48
      ·have f6 : ((s[a].toNat : Int) == 48) = true := by rw [← HB0.out, e4]; rfl
       go_wp2_with fail
       exact HN.out k aa _ HST.out (Or.inr (Or.inr ⟨e3, e4⟩)) (HTU.out.drewN _)
      ·have f6 : ((s[a].toNat : Int) == 48) = false := by rw [← HB0.out]; simp; omega
       go_wp2_with fail
       exact HY.out k aa _ HST.out (by omega) (HTU.out.drewN _) (HCU.out.drewN _)
     ·have f4 : decide ((1 : Int) < (aa : Int) - (a : Int)) = false := decide_eq_false (by omega)
      go_wp2_with fail
      exact HY.out k aa _ HST.out (by omega) (HTU.out.drewN _) (HCU.out.drewN _)
set_option maxRecDepth 100000 in
theorem rd_numbered_any (g : Nat) (s : ByteArray) (k : Int) (a c lim : Nat) (fo : Value) (w : World) (h : Cur g s a c fo w) (ha : a ≤ s.size) (hs : s.size ≤ 1152921504606846976) (hl : lim ≤ 20) :
  Calls Try.prog 67 #[.pointer (some ⟨g, 0, none⟩), .int .i64 k, .int .i64 lim] w (fun e w' => Turn g w w' ∧ match numC s lim a with
   | some x => e = .returned (.tuple #[.agg #[.int .i64 k, .int .i64 x.1, .slice none 0 0], .bool true]) ∧ Cur g s x.2 c fo w'
   | none => e = .returned (.tuple #[.agg #[.int .i64 0, .int .i64 0, .slice none 0 0], .bool false])) := by
 obtain ⟨post, hpost⟩ : ∃ post : Ending → World → Prop, post = (fun e w' => Turn g w w' ∧ match numC s lim a with
   | some x => e = .returned (.tuple #[.agg #[.int .i64 k, .int .i64 x.1, .slice none 0 0], .bool true]) ∧ Cur g s x.2 c fo w'
   | none => e = .returned (.tuple #[.agg #[.int .i64 0, .int .i64 0, .slice none 0 0], .bool false])) := ⟨_, rfl⟩
 rw [← hpost]
 have HPO := tuck hpost
 clear hpost
 have hg := h.facts.1
 have HV := tuck (VarAt.new w 0 0 (.slice none 0 0))
 have HNUM := tuck (rd_number_any g s a c lim fo (w.alloc (.cells #[.int .i64 0, .int .i64 0, .slice none 0 0] 24)) (h.alloc _) ha hs hl)
 have HT := tuck ((Turn.refl g w).alloc (.cells #[.int .i64 0, .int .i64 0, .slice none 0 0] 24))
 have HZ : Hid (g < w.heap.size) := tuck hg
 clear h
 go_enter Try.func67, Try.ntmps67
 go_wp2_with fail
 generalize w.alloc (.cells #[.int .i64 0, .int .i64 0, .slice none 0 0] 24) = W at *
 refine HNUM.out.mono ?_
 rintro e w2 ⟨ht, hm⟩
 have hzv := HV.out.facts.1
 have HV2 := tuck (HV.out.only ht.1 (by omega))
 have HT2 := tuck (HT.out.trans ht)
 clear ht HNUM
 obtain ⟨z1, r0, r1, r2, rf⟩ := HV2.out.facts
 cases hn : numC s lim a with
 | none =>
  have hpost := HPO.out
  rw [hn] at hm hpost
  obtain rfl := hm
  have HP : Hid (∀ w', Turn g w w' → post (.returned (.tuple #[.agg #[.int .i64 0, .int .i64 0, .slice none 0 0], .bool false])) w') := tuck fun w' h => by rw [hpost]; exact ⟨h, rfl⟩
  clear hpost hn HPO
  go_wp2_with fail
  refine bodyPost_ret (v := .tuple #[.agg #[.int .i64 0, .int .i64 0, .slice none 0 0], .bool false]) (by simp [results, Try.results67, go_sem, *]) rfl (HP.out _ ?_)
  exact ((HT2.out.far (Nat.le_refl _) HZ.out _).far (Nat.le_refl _) HZ.out _).far (Nat.le_refl _) HZ.out _
 | some x =>
  have hpost := HPO.out
  rw [hn] at hm hpost
  obtain ⟨rfl, hcu⟩ := hm
  have HCU := tuck hcu
  have HP : Hid (∀ w', Turn g w w' → Cur g s x.2 c fo w' → post (.returned (.tuple #[.agg #[.int .i64 k, .int .i64 x.1, .slice none 0 0], .bool true])) w') := tuck fun w' h h2 => by rw [hpost]; exact ⟨h, rfl, h2⟩
  clear hpost hn hcu HPO
  go_wp2_with fail
  have hne : w.heap.size ≠ g := by have := HZ.out; omega
  refine bodyPost_ret (v := .tuple #[.agg #[.int .i64 k, .int .i64 x.1, .slice none 0 0], .bool true]) (by simp [results, Try.results67, go_sem, *]) rfl (HP.out _ ?_ ?_)
  ·exact ((HT2.out.far (Nat.le_refl _) HZ.out _).far (Nat.le_refl _) HZ.out _).far (Nat.le_refl _) HZ.out _
  ·exact ((HCU.out.far hne _).far hne _).far hne _
end Go.Proofs.Ytpddjebdncaceaa
