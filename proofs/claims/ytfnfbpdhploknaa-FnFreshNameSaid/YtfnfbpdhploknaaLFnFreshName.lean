/-
  The law FnFreshName: whatever the bytes, the fresh name is the first letter that is not used.
-/
import Derived.Laws.Cover1
import Derived.Test.YtfnfbpdhploknaaOpen
import Derived.Test.YtfnfbpdhploknaaNamesD
import Derived.Test.YtfnfbpdhploknaaNamesP
namespace Go.Proofs.Ytfnfbpdhploknaa.fnFreshName
open Go.ChangeShapes Go.WideShapes Go.ChangeAt Go.RowKit Go.Deep
set_option linter.unusedVariables false

theorem readable_FnFreshName : ∀ t ∈ (#[22] : Array TypeId).toList, Try.prog.readableRec t = true ∧ t < Try.prog.types.size := by
  intro t ht
  simp at ht
  rcases ht with rfl
  exact ⟨by kernel_rfl, of_decide_eq_true (by kernel_rfl)⟩
theorem laid : laidOutB Try.prog = true := by kernel_rfl

set_option maxRecDepth 100000 in
/-- The walk. -/
theorem walk (U : Nat → Int) (a : Option Addr) (b o len cap : Nat) (w : World) (hlc : len ≤ cap) (hcm : cap ≤ maxLen) (hby : Bytes U a b o len w) : Calls Try.prog 3 #[.slice a len cap] w fun e w' => e = .returned (.bool true) ∧ Below w.heap.size w w' := by
  unfold maxLen at hcm
  by_cases hl : 1048576 < len
  · have hl' : (1048576 : Int) < (len : Int) := by omega
    clear hby
    go_enter Try.func3, Try.ntmps3
    go_wp2
    go_ret
    exact ⟨rfl, Below.refl _ _⟩
  have hl' : ¬ (1048576 : Int) < (len : Int) := by omega
  have HD := tuck (drawFresh_any w (by omega) hlc hby)
  clear hby
  go_enter Try.func3, Try.ntmps3
  go_wp2_with fail
  refine HD.out.mono ?_
  rintro e w1 ⟨s, hs1, rfl, hb⟩
  have HB := tuck hb
  clear hb HD
  have hs : s.size ≤ maxLen := by unfold maxLen; omega
  have HS := tuck fun w => freshNameS_any s w hs
  have HI := tuck fun w => freshNameI_any s w hs
  have HV := tuck fun w => namesValidI_any s w hs
  clear hs
  cases hk : nameOk s with
  | false =>
    replace HS : Hid (∀ w, Calls Try.prog 9 #[.string s] w fun e w' => e = .returned (.tuple #[.string (ByteArray.mk #[]), .bool false]) ∧ Below w.heap.size w w') := tuck fun w => (HS.out w).mono fun e w' h => by unfold FrPost at h; rw [hk] at h; exact h
    replace HI : Hid (∀ w, Calls Try.prog 8 #[.string s] w fun e w' => e = .returned (.tuple #[.string (ByteArray.mk #[]), .bool false]) ∧ Below w.heap.size w w') := tuck fun w => (HI.out w).mono fun e w' h => by unfold FrPost at h; rw [hk] at h; exact h
    replace HV : Hid (∀ w, Calls Try.prog 10 #[.string s] w fun e w' => e = .returned (.bool false) ∧ Below w.heap.size w w') := tuck fun w => (HV.out w).mono fun e w' h => by rw [hk] at h; exact h
    clear hk
    obtain ⟨t, ht⟩ : ∃ t, t = ByteArray.mk #[] := ⟨_, rfl⟩
    rw [← ht] at HS HI
    clear ht
    have htt : (t.toList == t.toList) = true := by simp
    have htn : (t.toList != t.toList) = false := by simp
    go_wp2_with fail
    refine (HI.out _).mono ?_
    rintro e w2 ⟨rfl, hb⟩
    replace HB := tuck (bAfter HB.out hb)
    clear hb
    go_wp2_with fail
    refine (HS.out _).mono ?_
    rintro e w3 ⟨rfl, hb⟩
    replace HB := tuck (bAfter HB.out hb)
    clear hb
    go_wp2_with (first | (go_at_call 10; refine (HV.out _).mono ?_; rintro e w4 ⟨rfl, hb⟩; replace HB := tuck (bAfter HB.out hb); clear hb))
    go_ret
    exact ⟨rfl, HB.out⟩
  | true =>
    have hk26 := nameOk_fresh hk
    replace HS : Hid (∀ w, Calls Try.prog 9 #[.string s] w fun e w' => e = .returned (.tuple #[.string (nameT (freshN (bl s s.size))), .bool true]) ∧ Below w.heap.size w w') := tuck fun w => (HS.out w).mono fun e w' h => by unfold FrPost at h; rw [hk] at h; exact h
    replace HI : Hid (∀ w, Calls Try.prog 8 #[.string s] w fun e w' => e = .returned (.tuple #[.string (nameT (freshN (bl s s.size))), .bool true]) ∧ Below w.heap.size w w') := tuck fun w => (HI.out w).mono fun e w' h => by unfold FrPost at h; rw [hk] at h; exact h
    replace HV : Hid (∀ w, Calls Try.prog 10 #[.string s] w fun e w' => e = .returned (.bool true) ∧ Below w.heap.size w w') := tuck fun w => (HV.out w).mono fun e w' h => by rw [hk] at h; exact h
    have HG := tuck (nameOk_good hk)
    have HCNT := tuck (cntB_all (nameOk_good hk) (freshN (bl s s.size)) (fun j hj => freshN_used hj))
    have HFREE := tuck (freshN_free hk26)
    clear hk
    have HSZ : Hid (s.size ≤ 1000) := tuck hs1
    have ht0 : 0 < (nameT (freshN (bl s s.size))).size := by rw [nameT_size]; omega
    have htg := nameT_get _ hk26 ht0
    have hts := nameT_size (freshN (bl s s.size))
    generalize freshN (bl s s.size) = k at *
    generalize nameT k = t at *
    have hts' : ((t.size : Int) == 1) = true := by rw [hts]; rfl
    have ht0' : (0 : Int) < (t.size : Int) := by omega
    have HTG := tuck htg
    have hb0 : (97 : Int) ≤ (t[0].toNat : Int) := by omega
    have hb1 : (t[0].toNat : Int) ≤ 122 := by omega
    clear htg hts
    have htt : (t.toList == t.toList) = true := by simp
    have htn : (t.toList != t.toList) = false := by simp
    go_wp2_with fail
    refine (HI.out _).mono ?_
    rintro e w2 ⟨rfl, hb⟩
    replace HB := tuck (bAfter HB.out hb)
    clear hb
    go_wp2_with fail
    refine (HS.out _).mono ?_
    rintro e w3 ⟨rfl, hb⟩
    replace HB := tuck (bAfter HB.out hb)
    clear hb
    go_wp2_with (first | (go_at_call 10; refine (HV.out _).mono ?_; rintro e w4 ⟨rfl, hb⟩; replace HB := tuck (bAfter HB.out hb); clear hb))
    go_loopw [8, 9] (fun n i wr => ∃ (m q : Nat), n = .int .i64 m ∧ i = .int .i64 q ∧ q ≤ s.size ∧ m = cntB (97 + (k : Int)) (bl s q) ∧ Below w.heap.size w wr) (fun _ i _ => s.size - (intOf i).toNat)
    case atStart => exact ⟨0, 0, rfl, rfl, Nat.zero_le _, rfl, HB.out⟩
    case round =>
      obtain ⟨m, q, rfl, rfl, hq, hm, hbw⟩ := hrel
      have HBW := tuck hbw
      have HM := tuck hm
      clear hbw
      have hmb : m ≤ 1000 := by
        have h1 := cntB_le (97 + (k : Int)) (bl s q)
        rw [bl_length, ← hm] at h1
        have := HSZ.out
        omega
      clear hm
      by_cases hlt : q < s.size
      · have hlti : decide ((q : Int) < (s.size : Int)) = true := decide_eq_true (by omega)
        have hlti2 : (q : Int) < (s.size : Int) := by omega
        have HBL : Hid (bl s (q + 1) = (s[q].toNat : Int) :: bl s q) := tuck (by rw [bl, dif_pos hlt])
        have hne : ((s[q].toNat : Int) == (t[0].toNat : Int)) = false := by
          rw [HTG.out]
          cases h : ((s[q].toNat : Int) == 97 + (k : Int)) with
          | false => rfl
          | true =>
            have e := eq_of_beq h
            have h1 := (nfind_mem _ _).2 (mem_bl s s.size q hlt hlt)
            rw [e, HFREE.out] at h1
            cases h1
        have hor : ((s[q].toNat : Int) < (t[0].toNat : Int) ∧ cntB (97 + (k : Int)) (bl s (q + 1)) = m + 1) ∨ (¬ (s[q].toNat : Int) < (t[0].toNat : Int) ∧ cntB (97 + (k : Int)) (bl s (q + 1)) = m) := by
          rw [HTG.out, HBL.out, cntB, ← HM.out]
          by_cases h : (s[q].toNat : Int) < 97 + (k : Int)
          · left; rw [if_pos h]; exact ⟨h, rfl⟩
          · right; rw [if_neg h]; exact ⟨h, rfl⟩
        have hqz : q ≤ 1000 := by have := HSZ.out; omega
        rcases hor with ⟨hd, hc⟩ | ⟨hd, hc⟩
        · have HC := tuck hc
          have hd2 : s[q].toNat < t[0].toNat := by omega
          have hd3 : decide (s[q].toNat < t[0].toNat) = true := decide_eq_true hd2
          clear hc
          go_wp2_with fail
          go_quiet (fail)
          go_wp2_with fail
          go_quiet (fail)
          go_wp2_with fail
          go_roundw
          case rel => exact ⟨m + 1, q + 1, by go_num, by go_num, by omega, HC.out.symm, bDrewN HBW.out _⟩
          case measure => (simp [intOf]; try omega)
        · have HC := tuck hc
          have hd2 : ¬ s[q].toNat < t[0].toNat := by omega
          have hd3 : decide (s[q].toNat < t[0].toNat) = false := decide_eq_false hd2
          clear hc
          go_wp2_with fail
          go_quiet (fail)
          go_wp2_with fail
          go_quiet (fail)
          go_wp2_with fail
          go_roundw
          case rel => exact ⟨m, q + 1, rfl, by go_num, by omega, HC.out.symm, bDrewN HBW.out _⟩
          case measure => (simp [intOf]; try omega)
      · have hlti : decide ((q : Int) < (s.size : Int)) = false := decide_eq_false (by omega)
        obtain rfl : q = s.size := by omega
        have hmk : m = k := by rw [HM.out]; exact HCNT.out
        have hend : ((m : Int) == (t[0].toNat : Int) - 97) = true := by rw [HTG.out, hmk]; simp; omega
        clear hmk
        go_wp2_with fail
        go_ret
        exact ⟨rfl, HBW.out⟩

set_option maxRecDepth 100000 in
theorem lifted (os : Os) (started : os.Started) (H : Type) (enc : TypeId × Value → H) :
    ReturnsInHanded {} Try.checked os 3 .any (Rows.fnFreshNameSpec.pre6 enc Try.prog Try.f3 Rows.fnFreshNameRow.domain false) (Rows.fnFreshNameSpec.post enc Try.prog Try.f3 false true false false) := by
  refine returnsInHanded_of_change (C := Try.checked) own started (by kernel_rfl) Try.func3
    (ChangeSpec.witness6 (enc := enc) (C := Try.checked) false ⟨#[], #[.slice none 0 0], []⟩ 8 (by kernel_rfl) (by kernel_rfl) (by kernel_rfl) (by kernel_rfl)) ?_
  intro W base args ds gs before hval0 hW hcnd _
  have hval : ∀ (j : Nat) t v, Try.f3.params[j]? = some t → args[j]? = some v → Value.okWide Try.prog W .any base t v := hval0
  have hW' := hW
  obtain ⟨p, q, hA0, hV, rfl, hfz, hnd⟩ := hW
  have hA : DataW.TrodAll enc Try.prog W 0 (fun _ => true) true Try.f3.params.toList args.toList ds p := hA0
  rw [Try.params3] at hA hval
  obtain ⟨v0, vs0, d0, ds0, p0, q0, hargs, rfl, rfl, h0, r0⟩ := trodAll_cons hA
  obtain ⟨rfl, rfl, rfl⟩ := trodAll_nil r0
  obtain rfl : args = #[v0] := by cases args; simp_all
  obtain ⟨U0, ad0, bb0, oo0, len0, cap0, rfl, hlc0, hcm0, hbl0, hby0⟩ := open_bytes (hval 0 22 v0 rfl rfl) h0
  refine (walk U0 ad0 bb0 oo0 len0 cap0 W hlc0 hcm0 hby0).mono fun e W' ⟨he, hb⟩ => ?_
  subst he
  exact ⟨_, rfl, law_post rfl rfl (fun gs h => by subst h; rfl) (by rw [Try.params3]; exact readable_FnFreshName) laid hW' hb⟩

theorem over : Rows.fnFreshNameRow.holds Try.pinned (OpenSpec.ofChange Rows.fnFreshNameSpec) :=
  OpenClaim.holds_of_wide 3 Try.f3 rfl rfl rfl rfl rfl rfl rfl ⟨rfl, rfl, rfl, rfl, rfl⟩ rfl rfl rfl rfl rfl (by kernel_rfl) Try.func3 (by kernel_rfl)
    (of_decide_eq_true (by kernel_rfl)) (by unfold Func.isWrapper; first | (rw [if_pos (by decide +kernel)]; kernel_rfl) | (rw [if_neg (by decide +kernel)]; exact ⟨rfl, rfl⟩))
    (fun os started H enc _ => lifted os started H enc)

theorem proved : Rows.FnFreshNameSaid :=
  over
end Go.Proofs.Ytfnfbpdhploknaa.fnFreshName
