/-
  The law FnFunTimes: for every two slices of bytes: the values of the functions are as the model's and obey arithmetic.
-/
import Derived.Test.YtjhjnkeildeedaaNfF
import Derived.Test.YtjhjnkeildeedaaOpenB
import Derived.IntWalk
namespace Go.Proofs.Ytjhjnkeildeedaa.fnFunTimes
open Go.ChangeShapes Go.WideShapes Go.ChangeAt Go.RowKit Go.Deep
set_option linter.unusedVariables false

theorem readable_FnFunTimes : ∀ t ∈ (#[38, 38] : Array TypeId).toList, Try.prog.readableRec t = true ∧ t < Try.prog.types.size := by
  intro t ht
  simp at ht
  subst ht
  exact ⟨by kernel_rfl, of_decide_eq_true (by kernel_rfl)⟩
theorem laid : laidOutB Try.prog = true := by kernel_rfl

set_option maxRecDepth 100000 in
set_option maxHeartbeats 1600000 in
theorem walk (U : Nat → Int) (a : Option Addr) (b o len cap : Nat) (w : World) (hlc : len ≤ cap) (hcm : cap ≤ maxLen) (hby : Bytes U a b o len w) (U2 : Nat → Int) (a2 : Option Addr) (b2 o2 len2 cap2 : Nat) (hlc2 : len2 ≤ cap2) (hcm2 : cap2 ≤ maxLen) (hby2 : Bytes U2 a2 b2 o2 len2 w) : Calls Try.prog 7 #[.slice a len cap, .slice a2 len2 cap2] w fun e w' => e = .returned (.bool true) ∧ Below w.heap.size w w' := by
  unfold maxLen at hcm hcm2
  by_cases hl : 1048576 < len
  · have hl' : (1048576 : Int) < (len : Int) := by omega
    clear hby hby2
    go_enter Try.func7, Try.ntmps7
    go_wp2
    go_ret
    exact ⟨rfl, Below.refl _ _⟩
  have hl' : ¬ (1048576 : Int) < (len : Int) := by omega
  by_cases hl3 : 1048576 < len2
  · have hl3' : (1048576 : Int) < (len2 : Int) := by omega
    clear hby hby2
    go_enter Try.func7, Try.ntmps7
    go_wp2
    go_ret
    exact ⟨rfl, Below.refl _ _⟩
  have hl3' : ¬ (1048576 : Int) < (len2 : Int) := by omega
  have HDR := tuck (dFunValue_any (U := U) w (by omega) hlc hby)
  have hq : ∃ q : Int, (len2 : Int).tmod 19 = q ∧ 0 ≤ q ∧ q < 19 := ⟨_, rfl, Int.tmod_nonneg _ (by omega), Int.tmod_lt_of_pos _ (by omega)⟩
  obtain ⟨q, hq, hq0, hq1⟩ := hq
  clear hby hby2
  go_enter Try.func7, Try.ntmps7
  go_wp2_with fail
  refine HDR.out.mono ?_
  rintro e w1 ⟨f, n, N, nv, rfl, hn, hi, hb⟩
  have HB := tuck hb
  have HI := tuck hi
  have HIM : Hid (∀ W, Ints W 0 N n nv → Calls Try.prog 16 #[.int .i64 f, nv] W (fun e w' => Below W.heap.size W w' ∧ e = .returned (.tuple #[.int .i64 (nfR f N n), .bool (tr (NfOk f N n))]))) := tuck fun W h => valI_any f N n W nv (by omega) h
  have HSP : Hid (∀ W, Ints W 0 N n nv → Calls Try.prog 14 #[.int .i64 f, nv] W (fun e w' => Below W.heap.size W w' ∧ e = .returned (.tuple #[.int .i64 (nfR f N n), .bool (tr (NfOk f N n))]))) := tuck fun W h => valS_any f N n W nv (by omega) h
  obtain ⟨va, vc, rfl⟩ := hi.form
  obtain ⟨R, hR⟩ : ∃ R, R = nfR f N n := ⟨_, rfl⟩
  rw [← hR] at HIM HSP
  have hRR : (R != R) = false := by simp
  clear hb hR HDR
  by_cases hok : NfOk f N n
  rotate_left
  · rw [tr_not hok] at HIM HSP
    clear hok hi
    go_wp2_with fail
    refine (HIM.out _ HI.out).mono ?_
    rintro e w2 ⟨hb, rfl⟩
    replace HB := tuck (bAfter HB.out hb)
    replace HI := tuck (HI.out.below hb)
    clear hb
    go_wp2_with fail
    refine (HSP.out _ HI.out).mono ?_
    rintro e w3 ⟨hb, rfl⟩
    replace HB := tuck (bAfter HB.out hb)
    clear hb
    go_wp2_with fail
    go_ret
    exact ⟨rfl, HB.out⟩
  rw [tr_of hok] at HIM HSP
  have hpos : 0 < n := by have := nfA_cases hok.1; omega
  have hN0 := hok.2 0 hpos
  simp only [Int.natCast_zero] at hN0
  go_wp2_with fail
  refine (HIM.out _ HI.out).mono ?_
  rintro e w2 ⟨hb, rfl⟩
  replace HB := tuck (bAfter HB.out hb)
  replace HI := tuck (HI.out.below hb)
  clear hb
  go_wp2_with fail
  refine (HSP.out _ HI.out).mono ?_
  rintro e w3 ⟨hb, rfl⟩
  replace HB := tuck (bAfter HB.out hb)
  replace HI := tuck (HI.out.below hb)
  clear hb hok hi
  have hposi : (0 : Int) < (n : Int) := by omega
  obtain ⟨a1, cap1, b1, o1, he, k1, k2⟩ := HI.out
  simp only [Value.slice.injEq, true_and] at he
  obtain ⟨rfl, rfl⟩ := he
  obtain ⟨rfl, -, -⟩ := k1 hpos
  have c0 := k2 0 hpos
  simp only [Int.natCast_zero, Nat.add_zero] at c0
  clear k1 k2 HI HIM HSP
  obtain ⟨x, hx⟩ : ∃ x, x = N 0 := ⟨_, rfl⟩
  rw [← hx] at c0 hN0
  clear hx
  go_wp2_with fail
  have hm0 : 0 ≤ x * q := Int.mul_nonneg hN0.1 hq0
  have hm1 : x * q ≤ 400 := Int.le_trans (Int.mul_le_mul_of_nonneg_left (show q ≤ 20 by omega) hN0.1) (by omega)
  obtain ⟨M, hM⟩ : ∃ M, M = x * q := ⟨_, rfl⟩
  rw [← hM] at hm0 hm1
  refine (lit2_any 2 (x) (q) w3 (by decide) ⟨by omega, by omega⟩ ⟨by omega, by omega⟩).mono ?_
  rintro e w4 ⟨hb, rfl⟩
  replace HB := tuck (bAfter (bAfter HB.out (below1 w3 (.cells #[.int .i64 (x), .int .i64 (q)] 3))) hb)
  clear hb
  rw [show nfV 2 (x) (q) = M by simp [nfV]; exact hM.symm]
  go_wp2_with fail
  refine (lit2_any 2 (x) (q + 1) w4 (by decide) ⟨by omega, by omega⟩ ⟨by omega, by omega⟩).mono ?_
  rintro e w5 ⟨hb, rfl⟩
  replace HB := tuck (bAfter (bAfter HB.out (below1 w4 (.cells #[.int .i64 (x), .int .i64 (q + 1)] 3))) hb)
  clear hb
  rw [show nfV 2 (x) (q + 1) = M + x by simp [nfV]; rw [hM, Int.mul_add, Int.mul_one]]
  go_wp2_with fail
  have hZ1 : (nfV 5 q q == 1) = (q == 0) := by by_cases h : q = 0 <;> simp [nfV, h]
  refine (lit1_any 5 (q) w5 (by decide) ⟨by omega, by omega⟩).mono ?_
  rintro e w6 ⟨hb, rfl⟩
  replace HB := tuck (bAfter (bAfter HB.out (below1 w5 (.cells #[.int .i64 (q)] 3))) hb)
  clear hb
  rw [show nfV 5 (q) (q) = nfV 5 q q by rfl]
  go_wp2_with fail
  all_goals (go_ret; exact ⟨by first | rfl | simp [hZ1], HB.out⟩)

set_option maxRecDepth 100000 in
theorem lifted (os : Os) (started : os.Started) (H : Type) (enc : TypeId × Value → H) :
    ReturnsInHanded {} Try.checked os 7 .any (Rows.fnFunTimesSpec.pre6 enc Try.prog Try.f7 Rows.fnFunTimesRow.domain false) (Rows.fnFunTimesSpec.post enc Try.prog Try.f7 false true false false) := by
  refine returnsInHanded_of_change (C := Try.checked) own started (by kernel_rfl) Try.func7
    (ChangeSpec.witness6 (enc := enc) (C := Try.checked) false ⟨#[], #[.slice none 0 0, .slice none 0 0], []⟩ 8 (by kernel_rfl) (by kernel_rfl) (by kernel_rfl) (by kernel_rfl)) ?_
  intro W base args ds gs before hval0 hW hcnd _
  have hval : ∀ (j : Nat) t v, Try.f7.params[j]? = some t → args[j]? = some v → Value.okWide Try.prog W .any base t v := hval0
  have hW' := hW
  obtain ⟨p, q, hA0, hV, rfl, hfz, hnd⟩ := hW
  have hA : DataW.TrodAll enc Try.prog W 0 (fun _ => true) true Try.f7.params.toList args.toList ds p := hA0
  rw [Try.params7] at hA hval
  obtain ⟨v0, vs0, d0, ds0, p0, q0, hargs, rfl, rfl, h0, r0⟩ := trodAll_cons hA
  obtain ⟨v1, vs1, d1, ds1, p1, q1, rfl, rfl, rfl, h1, r1⟩ := trodAll_cons r0
  obtain ⟨rfl, rfl, rfl⟩ := trodAll_nil r1
  obtain rfl : args = #[v0, v1] := by cases args; simp_all
  obtain ⟨U0, ad0, bb0, oo0, len0, cap0, rfl, hlc0, hcm0, hbl0, hby0⟩ := open_bytes (hval 0 38 v0 rfl rfl) h0
  obtain ⟨U1, ad1, bb1, oo1, len1, cap1, rfl, hlc1, hcm1, hbl1, hby1⟩ := open_bytes (hval 1 38 v1 rfl rfl) h1
  refine (walk U0 ad0 bb0 oo0 len0 cap0 W hlc0 hcm0 hby0 U1 ad1 bb1 oo1 len1 cap1 hlc1 hcm1 hby1).mono fun e W' ⟨he, hb⟩ => ?_
  subst he
  exact ⟨_, rfl, law_post rfl rfl (fun gs h => by subst h; rfl) (by rw [Try.params7]; exact readable_FnFunTimes) laid hW' hb⟩

theorem over : Rows.fnFunTimesRow.holds Try.pinned (OpenSpec.ofChange Rows.fnFunTimesSpec) :=
  OpenClaim.holds_of_wide 7 Try.f7 rfl rfl rfl rfl rfl rfl rfl ⟨rfl, rfl, rfl, rfl, rfl⟩ rfl rfl rfl rfl rfl (by kernel_rfl) Try.func7 (by kernel_rfl)
    (of_decide_eq_true (by kernel_rfl)) (by unfold Func.isWrapper; first | (rw [if_pos (by decide +kernel)]; kernel_rfl) | (rw [if_neg (by decide +kernel)]; exact ⟨rfl, rfl⟩))
    (fun os started H enc _ => lifted os started H enc)

theorem proved : Rows.FnFunTimesSaid :=
  over
end Go.Proofs.Ytjhjnkeildeedaa.fnFunTimes
