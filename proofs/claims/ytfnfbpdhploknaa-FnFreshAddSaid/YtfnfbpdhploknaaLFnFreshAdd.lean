/-
  The law FnFreshAdd: whatever the bytes, a further fresh name comes behind the first one.
-/
import Derived.Laws.Cover1
import Derived.Test.YtfnfbpdhploknaaOpen
import Derived.Test.YtfnfbpdhploknaaNamesD
import Derived.Test.YtfnfbpdhploknaaNamesP
namespace Go.Proofs.Ytfnfbpdhploknaa.fnFreshAdd
open Go.ChangeShapes Go.WideShapes Go.ChangeAt Go.RowKit Go.Deep
set_option linter.unusedVariables false

theorem readable_FnFreshAdd : ∀ t ∈ (#[22] : Array TypeId).toList, Try.prog.readableRec t = true ∧ t < Try.prog.types.size := by
  intro t ht
  simp at ht
  rcases ht with rfl
  exact ⟨by kernel_rfl, of_decide_eq_true (by kernel_rfl)⟩
theorem laid : laidOutB Try.prog = true := by kernel_rfl

set_option maxRecDepth 100000 in
/-- The walk. -/
theorem walk (U : Nat → Int) (a : Option Addr) (b o len cap : Nat) (w : World) (hlc : len ≤ cap) (hcm : cap ≤ maxLen) (hby : Bytes U a b o len w) : Calls Try.prog 4 #[.slice a len cap] w fun e w' => e = .returned (.bool true) ∧ Below w.heap.size w w' := by
  unfold maxLen at hcm
  by_cases hl : 1048576 < len
  · have hl' : (1048576 : Int) < (len : Int) := by omega
    clear hby
    go_enter Try.func4, Try.ntmps4
    go_wp2
    go_ret
    exact ⟨rfl, Below.refl _ _⟩
  have hl' : ¬ (1048576 : Int) < (len : Int) := by omega
  have HD := tuck (drawFresh_any w (by omega) hlc hby)
  clear hby
  go_enter Try.func4, Try.ntmps4
  go_wp2_with fail
  refine HD.out.mono ?_
  rintro e w1 ⟨s, hs1, rfl, hb⟩
  have HB := tuck hb
  clear hb HD
  have hs : s.size ≤ maxLen := by unfold maxLen; omega
  have HS := tuck fun w => freshNameS_any s w hs
  have HI := tuck fun w => freshNameI_any s w hs
  have HV := tuck fun w => namesValidI_any s w hs
  clear hs
  cases hk : nameOk s with
  | false =>
    replace HS : Hid (∀ w, Calls Try.prog 9 #[.string s] w fun e w' => e = .returned (.tuple #[.string (ByteArray.mk #[]), .bool false]) ∧ Below w.heap.size w w') := tuck fun w => (HS.out w).mono fun e w' h => by unfold FrPost at h; rw [hk] at h; exact h
    replace HI : Hid (∀ w, Calls Try.prog 8 #[.string s] w fun e w' => e = .returned (.tuple #[.string (ByteArray.mk #[]), .bool false]) ∧ Below w.heap.size w w') := tuck fun w => (HI.out w).mono fun e w' h => by unfold FrPost at h; rw [hk] at h; exact h
    replace HV : Hid (∀ w, Calls Try.prog 10 #[.string s] w fun e w' => e = .returned (.bool false) ∧ Below w.heap.size w w') := tuck fun w => (HV.out w).mono fun e w' h => by rw [hk] at h; exact h
    clear hk
    obtain ⟨t, ht⟩ : ∃ t, t = ByteArray.mk #[] := ⟨_, rfl⟩
    rw [← ht] at HS HI
    clear ht
    have htt : (t.toList == t.toList) = true := by simp
    have htn : (t.toList != t.toList) = false := by simp
    go_wp2_with fail
    refine (HI.out _).mono ?_
    rintro e w2 ⟨rfl, hb⟩
    replace HB := tuck (bAfter HB.out hb)
    clear hb
    go_wp2_with fail
    refine (HS.out _).mono ?_
    rintro e w3 ⟨rfl, hb⟩
    replace HB := tuck (bAfter HB.out hb)
    clear hb
    go_wp2_with (first | (go_at_call 10; refine (HV.out _).mono ?_; rintro e w4 ⟨rfl, hb⟩; replace HB := tuck (bAfter HB.out hb); clear hb))
    go_ret
    exact ⟨rfl, HB.out⟩
  | true =>
    have hk26 := nameOk_fresh hk
    replace HS : Hid (∀ w, Calls Try.prog 9 #[.string s] w fun e w' => e = .returned (.tuple #[.string (nameT (freshN (bl s s.size))), .bool true]) ∧ Below w.heap.size w w') := tuck fun w => (HS.out w).mono fun e w' h => by unfold FrPost at h; rw [hk] at h; exact h
    replace HI : Hid (∀ w, Calls Try.prog 8 #[.string s] w fun e w' => e = .returned (.tuple #[.string (nameT (freshN (bl s s.size))), .bool true]) ∧ Below w.heap.size w w') := tuck fun w => (HI.out w).mono fun e w' h => by unfold FrPost at h; rw [hk] at h; exact h
    replace HV : Hid (∀ w, Calls Try.prog 10 #[.string s] w fun e w' => e = .returned (.bool true) ∧ Below w.heap.size w w') := tuck fun w => (HV.out w).mono fun e w' h => by rw [hk] at h; exact h
    by_cases h20 : 20 ≤ s.size
    · have h20' : decide ((20 : Int) ≤ (s.size : Int)) = true := decide_eq_true (by omega)
      clear hk hk26
      generalize nameT (freshN (bl s s.size)) = t at *
      have htt : (t.toList == t.toList) = true := by simp
      have htn : (t.toList != t.toList) = false := by simp
      go_wp2_with fail
      refine (HI.out _).mono ?_
      rintro e w2 ⟨rfl, hb⟩
      replace HB := tuck (bAfter HB.out hb)
      clear hb
      go_wp2_with fail
      refine (HS.out _).mono ?_
      rintro e w3 ⟨rfl, hb⟩
      replace HB := tuck (bAfter HB.out hb)
      clear hb
      go_wp2_with fail
      go_ret
      exact ⟨rfl, HB.out⟩
    have h20' : decide ((20 : Int) ≤ (s.size : Int)) = false := decide_eq_false (by omega)
    have hok := nameOk_add hk (by omega)
    have hfa := fresh_add hk
    have hk2 := nameOk_fresh hok
    have hsz : (s ++ nameT (freshN (bl s s.size))).size ≤ maxLen := by rw [ByteArray.size_append, nameT_size]; unfold maxLen; omega
    have HI2 : Hid (∀ w, Calls Try.prog 8 #[.string (s ++ nameT (freshN (bl s s.size)))] w fun e w' => e = .returned (.tuple #[.string (nameT (freshN (bl (s ++ nameT (freshN (bl s s.size))) (s ++ nameT (freshN (bl s s.size))).size))), .bool true]) ∧ Below w.heap.size w w') := tuck fun w => (freshNameI_any _ w hsz).mono fun e w' h => by unfold FrPost at h; rw [hok] at h; exact h
    have HV2 : Hid (∀ w, Calls Try.prog 10 #[.string (s ++ nameT (freshN (bl s s.size)))] w fun e w' => e = .returned (.bool true) ∧ Below w.heap.size w w') := tuck fun w => (namesValidI_any _ w hsz).mono fun e w' h => by rw [hok] at h; exact h
    have hsum : ¬ (9223372036854775807 < s.size + (nameT (freshN (bl s s.size))).size) := by rw [nameT_size]; omega
    clear hsz hok hk
    generalize freshN (bl (s ++ nameT (freshN (bl s s.size))) (s ++ nameT (freshN (bl s s.size))).size) = k2 at *
    generalize freshN (bl s s.size) = k at *
    have HGT : Hid (k < k2 ∧ k2 < 26) := tuck ⟨hfa, hk2⟩
    clear hfa hk2 hk26
    obtain ⟨t, ht⟩ : ∃ t, t = nameT k := ⟨_, rfl⟩
    obtain ⟨u, hu⟩ : ∃ u, u = nameT k2 := ⟨_, rfl⟩
    rw [← ht] at HS HI HI2 HV2 hsum
    rw [← hu] at HI2
    have htt : (t.toList == t.toList) = true := by simp
    have htn : (t.toList != t.toList) = false := by simp
    have htl : t.toList = [UInt8.ofNat (97 + k)] := by rw [ht, ByteArray.toList_eq]; rfl
    have hul : u.toList = [UInt8.ofNat (97 + k2)] := by rw [hu, ByteArray.toList_eq]; rfl
    have hcmp : (UInt8.ofNat (97 + k)).toNat = 97 + k ∧ (UInt8.ofNat (97 + k2)).toNat = 97 + k2 := by have := HGT.out; constructor <;> (simp; omega)
    have hless : Op.bytesLess u.toList t.toList = false := by
      rw [htl, hul]
      have h1 : ¬ (UInt8.ofNat (97 + k2) < UInt8.ofNat (97 + k)) := by rw [UInt8.lt_iff_toNat_lt]; have := HGT.out; omega
      generalize UInt8.ofNat (97 + k2) = x at *
      generalize UInt8.ofNat (97 + k) = y at *
      simp [Op.bytesLess]
      exact UInt8.not_lt.1 h1
    have heq : (u.toList == t.toList) = false := by
      rw [htl, hul, beq_eq_false_iff_ne]
      intro e
      injection e with e _
      have := congrArg UInt8.toNat e
      have := HGT.out
      omega
    clear htl hul hcmp
    clear ht hu
    go_wp2_with fail
    refine (HI.out _).mono ?_
    rintro e w2 ⟨rfl, hb⟩
    replace HB := tuck (bAfter HB.out hb)
    clear hb
    go_wp2_with fail
    refine (HS.out _).mono ?_
    rintro e w3 ⟨rfl, hb⟩
    replace HB := tuck (bAfter HB.out hb)
    clear hb
    go_wp2_with fail
    refine (HI2.out _).mono ?_
    rintro e w4 ⟨rfl, hb⟩
    replace HB := tuck (bAfter HB.out hb)
    clear hb
    go_wp2_with fail
    refine (HV2.out _).mono ?_
    rintro e w5 ⟨rfl, hb⟩
    replace HB := tuck (bAfter HB.out hb)
    clear hb
    go_wp2_with fail
    go_ret
    exact ⟨rfl, HB.out⟩

set_option maxRecDepth 100000 in
theorem lifted (os : Os) (started : os.Started) (H : Type) (enc : TypeId × Value → H) :
    ReturnsInHanded {} Try.checked os 4 .any (Rows.fnFreshAddSpec.pre6 enc Try.prog Try.f4 Rows.fnFreshAddRow.domain false) (Rows.fnFreshAddSpec.post enc Try.prog Try.f4 false true false false) := by
  refine returnsInHanded_of_change (C := Try.checked) own started (by kernel_rfl) Try.func4
    (ChangeSpec.witness6 (enc := enc) (C := Try.checked) false ⟨#[], #[.slice none 0 0], []⟩ 8 (by kernel_rfl) (by kernel_rfl) (by kernel_rfl) (by kernel_rfl)) ?_
  intro W base args ds gs before hval0 hW hcnd _
  have hval : ∀ (j : Nat) t v, Try.f4.params[j]? = some t → args[j]? = some v → Value.okWide Try.prog W .any base t v := hval0
  have hW' := hW
  obtain ⟨p, q, hA0, hV, rfl, hfz, hnd⟩ := hW
  have hA : DataW.TrodAll enc Try.prog W 0 (fun _ => true) true Try.f4.params.toList args.toList ds p := hA0
  rw [Try.params4] at hA hval
  obtain ⟨v0, vs0, d0, ds0, p0, q0, hargs, rfl, rfl, h0, r0⟩ := trodAll_cons hA
  obtain ⟨rfl, rfl, rfl⟩ := trodAll_nil r0
  obtain rfl : args = #[v0] := by cases args; simp_all
  obtain ⟨U0, ad0, bb0, oo0, len0, cap0, rfl, hlc0, hcm0, hbl0, hby0⟩ := open_bytes (hval 0 22 v0 rfl rfl) h0
  refine (walk U0 ad0 bb0 oo0 len0 cap0 W hlc0 hcm0 hby0).mono fun e W' ⟨he, hb⟩ => ?_
  subst he
  exact ⟨_, rfl, law_post rfl rfl (fun gs h => by subst h; rfl) (by rw [Try.params4]; exact readable_FnFreshAdd) laid hW' hb⟩

theorem over : Rows.fnFreshAddRow.holds Try.pinned (OpenSpec.ofChange Rows.fnFreshAddSpec) :=
  OpenClaim.holds_of_wide 4 Try.f4 rfl rfl rfl rfl rfl rfl rfl ⟨rfl, rfl, rfl, rfl, rfl⟩ rfl rfl rfl rfl rfl (by kernel_rfl) Try.func4 (by kernel_rfl)
    (of_decide_eq_true (by kernel_rfl)) (by unfold Func.isWrapper; first | (rw [if_pos (by decide +kernel)]; kernel_rfl) | (rw [if_neg (by decide +kernel)]; exact ⟨rfl, rfl⟩))
    (fun os started H enc _ => lifted os started H enc)

theorem proved : Rows.FnFreshAddSaid :=
  over
end Go.Proofs.Ytfnfbpdhploknaa.fnFreshAdd
