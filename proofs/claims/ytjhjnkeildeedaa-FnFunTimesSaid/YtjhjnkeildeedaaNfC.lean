/-
  The model's FunArity, l10Fits and FunValue.
-/
import Derived.Test.YtjhjnkeildeedaaNfA
namespace Go.Proofs.Ytjhjnkeildeedaa
open Go.RowKit
set_option linter.unusedVariables false
set_option linter.unusedSimpArgs false

/-- What a function takes. -/
def NfOk (f : Int) (N : Int → Int) (len : Nat) : Prop := (len : Int) = nfA f ∧ ∀ i : Nat, i < len → 0 ≤ N i ∧ N i ≤ 20
/-- The value that is answered. -/
noncomputable def nfR (f : Int) (N : Int → Int) (len : Nat) : Int := open Classical in if NfOk f N len then nfV f (N 0) (N ((len - 1 : Nat) : Int)) else 0
theorem nfA_cases {f : Int} {len : Nat} (h : (len : Int) = nfA f) : (len = 2 ∧ (f = 1 ∨ f = 2 ∨ f = 4)) ∨ (len = 1 ∧ (f = 3 ∨ f = 5 ∨ f = 6)) := by
  unfold nfA at h
  split at h
  · exact Or.inl ⟨by omega, by assumption⟩
  · split at h
    · exact Or.inr ⟨by omega, by assumption⟩
    · omega

set_option maxRecDepth 100000 in
theorem arityS_any (f : Int) (w : World) : Calls Try.prog 12 #[.int .i64 f] w (fun e w' => e = .returned (.int .i64 (nfA f)) ∧ w' = w) := by
  have HP : Hid (∀ x, x = nfA f → (fun (e : Ending) w' => e = .returned (.int .i64 (nfA f)) ∧ w' = w) (.returned (.int .i64 x)) w) := tuck fun x h => by rw [h]; exact ⟨rfl, rfl⟩
  generalize (fun (e : Ending) w' => e = .returned (.int .i64 (nfA f)) ∧ w' = w) = post at *
  by_cases h1 : f = 1
  · subst h1
    go_enter Try.func12, Try.ntmps12
    go_wp2
    exact HP.out _ (by decide)
  by_cases h2 : f = 2
  · subst h2
    go_enter Try.func12, Try.ntmps12
    go_wp2
    exact HP.out _ (by decide)
  by_cases h3 : f = 3
  · subst h3
    go_enter Try.func12, Try.ntmps12
    go_wp2
    exact HP.out _ (by decide)
  by_cases h4 : f = 4
  · subst h4
    go_enter Try.func12, Try.ntmps12
    go_wp2
    exact HP.out _ (by decide)
  by_cases h5 : f = 5
  · subst h5
    go_enter Try.func12, Try.ntmps12
    go_wp2
    exact HP.out _ (by decide)
  by_cases h6 : f = 6
  · subst h6
    go_enter Try.func12, Try.ntmps12
    go_wp2
    exact HP.out _ (by decide)
  have HA : Hid (nfA f = -1) := tuck (by simp [nfA, h1, h2, h3, h4, h5, h6])
  have e1 : (f == 1) = false := by simpa using h1
  have e2 : (f == 2) = false := by simpa using h2
  have e3 : (f == 3) = false := by simpa using h3
  have e4 : (f == 4) = false := by simpa using h4
  have e5 : (f == 5) = false := by simpa using h5
  have e6 : (f == 6) = false := by simpa using h6
  clear h1 h2 h3 h4 h5 h6
  go_enter Try.func12, Try.ntmps12
  go_wp2
  exact HP.out _ HA.out.symm

set_option maxRecDepth 100000 in
set_option maxHeartbeats 1600000 in
theorem fitsS10_any (f : Int) (N : Int → Int) (len : Nat) (w : World) (v : Value) (hlen : len ≤ 1048576) (hv : Ints w 0 N len v) : Calls Try.prog 34 #[.int .i64 f, v] w (BoolPost w (tr (NfOk f N len))) := by
  obtain ⟨a, cap, b, o, rfl, h1, h2⟩ := hv
  have H1 := tuck h1
  have H2 := tuck h2
  have HN : Hid (∀ W q, Below w.heap.size w W → q < len → ¬ (0 ≤ N (q : Nat) ∧ N (q : Nat) ≤ 20) → BoolPost w (tr (NfOk f N len)) (.returned (.bool false)) W) := tuck fun W q hb hq h => ⟨by rw [tr_not (fun h0 => h (h0.2 q hq))], hb⟩
  have HY : Hid (∀ W x, Below w.heap.size w W → (∀ i : Nat, i < len → 0 ≤ N i ∧ N i ≤ 20) → x = (nfA f == (len : Int)) → BoolPost w (tr (NfOk f N len)) (.returned (.bool x)) W) := tuck fun W x hb h0 hx => ⟨by
    rw [hx]
    by_cases h : (len : Int) = nfA f
    · rw [tr_of (show NfOk f N len from ⟨h, h0⟩), show (nfA f == (len : Int)) = true by simpa using h.symm]
    · rw [tr_not (fun hh : NfOk f N len => h hh.1), show (nfA f == (len : Int)) = false by simpa using fun e => h e.symm], hb⟩
  generalize BoolPost w (tr (NfOk f N len)) = post at *
  clear h1 h2
  go_enter Try.func34, Try.ntmps34
  go_wp2
  go_loopw [5] (fun iv wr => ∃ q : Nat, q ≤ len ∧ iv = .int .i64 q ∧ Below w.heap.size w wr ∧ ∀ i : Nat, i < q → 0 ≤ N i ∧ N i ≤ 20) (fun iv _ => len - (intOf iv).toNat)
  case atStart => exact ⟨0, Nat.zero_le _, rfl, Below.refl _ _, fun i h => absurd h (Nat.not_lt_zero _)⟩
  case round =>
    obtain ⟨q, hq, rfl, hb, hall⟩ := hrel
    have HB := tuck hb
    have HALL := tuck hall
    by_cases hlt : q < len
    · have hlti : ((q : Int) < (len : Int)) := by omega
      have hqi : (0 : Int) ≤ (q : Int) := by omega
      obtain ⟨rfl, -, hbw⟩ := H1.out (by omega)
      have c0 := (hb.cell (p := ⟨b, o + q, none⟩) hbw).trans (H2.out q hlt)
      have HNQ : Hid (¬ (0 ≤ N q ∧ N q ≤ 20) → post (.returned (.bool false)) wr) := tuck (HN.out wr q hb hlt)
      clear hb hall
      obtain ⟨x, hx⟩ : ∃ x, x = N q := ⟨_, rfl⟩
      rw [← hx] at c0 HNQ
      have HX := tuck hx
      clear hx
      by_cases hx0 : x < 0
      · have hd : decide (x < 0) = true := decide_eq_true hx0
        go_wp2
        first
          | exact HNQ.out (by omega)
          | (go_ret; exact HNQ.out (by omega))
      · have hd : decide (x < 0) = false := decide_eq_false hx0
        by_cases hx1 : x > 20
        · have hd2 : decide (x > 20) = true := decide_eq_true hx1
          go_wp2
          first
            | exact HNQ.out (by omega)
            | (go_ret; exact HNQ.out (by omega))
        · have hd2 : decide (x > 20) = false := decide_eq_false hx1
          go_wp2
          go_roundw
          case rel => exact ⟨q + 1, by omega, by go_num, HB.out, fun i hi => by
            by_cases e : i = q
            · subst e; rw [← HX.out]; omega
            · exact HALL.out i (by omega)⟩
          case measure => simp [intOf]; omega
    · have hge : ¬ ((q : Int) < (len : Int)) := by omega
      have e : q = len := by omega
      subst e
      clear hb hall
      go_wp2_with fail
      refine (arityS_any f _).mono ?_
      rintro e w1 ⟨rfl, rfl⟩
      go_wp2_with fail
      first
        | exact HY.out _ _ HB.out HALL.out rfl
        | (go_ret; exact HY.out _ _ HB.out HALL.out rfl)

set_option maxRecDepth 100000 in
set_option maxHeartbeats 3200000 in
theorem valS_any (f : Int) (N : Int → Int) (len : Nat) (w : World) (v : Value) (hlen : len ≤ 1048576) (hv : Ints w 0 N len v) : Calls Try.prog 14 #[.int .i64 f, v] w (fun e w' => Below w.heap.size w w' ∧ e = .returned (.tuple #[.int .i64 (nfR f N len), .bool (tr (NfOk f N len))])) := by
  have HF : Hid (∀ W, Ints W 0 N len v → Calls Try.prog 34 #[.int .i64 f, v] W (BoolPost W (tr (NfOk f N len)))) := tuck fun W h => fitsS10_any f N len W v hlen h
  by_cases hok : NfOk f N len
  rotate_left
  · rw [tr_not hok] at HF ⊢
    rw [show nfR f N len = 0 from if_neg hok]
    have HP : Hid (∀ W, Below w.heap.size w W → (fun (e : Ending) w' => Below w.heap.size w w' ∧ e = .returned (.tuple #[.int .i64 0, .bool false])) (.returned (.tuple #[.int .i64 0, .bool false])) W) := tuck fun W hb => ⟨hb, rfl⟩
    generalize (fun (e : Ending) w' => Below w.heap.size w w' ∧ e = .returned (.tuple #[.int .i64 0, .bool false])) = post at *
    obtain ⟨a, cap, rfl⟩ := hv.form
    go_enter Try.func14, Try.ntmps14
    go_wp2_with fail
    refine (HF.out _ hv).mono ?_
    rintro e w1 ⟨rfl, hb⟩
    have HB := tuck hb
    clear hb hv
    go_wp2_with fail
    first
      | exact (HP.out _ HB.out)
      | (go_ret; exact (HP.out _ HB.out))
      | (refine bodyPost_ret (v := .tuple #[.int .i64 0, .bool false]) (by simp [results, Try.results14, go_sem]) rfl (HP.out _ HB.out))
  rw [tr_of hok] at HF ⊢
  rw [show nfR f N len = nfV f (N 0) (N ((len - 1 : Nat) : Int)) from if_pos hok]
  have HP : Hid (∀ W x, Below w.heap.size w W → x = nfV f (N 0) (N ((len - 1 : Nat) : Int)) → (fun (e : Ending) w' => Below w.heap.size w w' ∧ e = .returned (.tuple #[.int .i64 (nfV f (N 0) (N ((len - 1 : Nat) : Int))), .bool true])) (.returned (.tuple #[.int .i64 x, .bool true])) W) := tuck fun W x hb hx => ⟨hb, by rw [hx]⟩
  generalize (fun (e : Ending) w' => Below w.heap.size w w' ∧ e = .returned (.tuple #[.int .i64 (nfV f (N 0) (N ((len - 1 : Nat) : Int))), .bool true])) = post at *
  have hb0 := hok.2
  obtain ⟨a, cap, b, o, rfl, h1, h2⟩ := hv
  have HV : Hid (Ints w 0 N len (.slice a len cap)) := tuck ⟨a, cap, b, o, rfl, h1, h2⟩
  rcases nfA_cases hok.1 with ⟨rfl, hf⟩ | ⟨rfl, hf⟩
  · rcases hf with hf | hf | hf
    { subst hf
      have n0 := hb0 0 (by omega)
      have n1 := hb0 1 (by omega)
      have c0 := h2 0 (by omega)
      have c1 := h2 1 (by omega)
      obtain ⟨rfl, -, hbw⟩ := h1 (by omega)
      clear h1 h2 hb0 hok
      simp only [Int.natCast_zero, Int.natCast_one, Nat.add_zero] at n0 c0 n1 c1
      have HP2 : Hid (∀ W x, Below w.heap.size w W → x = nfV 1 (N 0) (N 1) → post (.returned (.tuple #[.int .i64 x, .bool true])) W) := HP
      clear HP
      obtain ⟨x0, hx0⟩ : ∃ x, x = N 0 := ⟨_, rfl⟩
      rw [← hx0] at n0 c0 HP2
      obtain ⟨x1, hx1⟩ : ∃ x, x = N 1 := ⟨_, rfl⟩
      rw [← hx1] at n1 c1 HP2
      clear hx1
      clear hx0
      go_enter Try.func14, Try.ntmps14
      go_wp2_with fail
      refine (HF.out _ HV.out).mono ?_
      rintro e w1 ⟨rfl, hb⟩
      replace c0 := (hb.cell (p := ⟨b, o, none⟩) hbw).trans c0
      replace c1 := (hb.cell (p := ⟨b, o + 1, none⟩) hbw).trans c1
      have HB := tuck hb
      clear hb
      go_wp2_with fail
      first
        | exact (HP2.out _ _ HB.out (by first | (simp [nfV, *]; done) | (show _ = (if x0 < x1 then 0 else x0 - x1); split <;> omega) | (show _ = (if x0 = 0 then 0 else x0 - 1); split <;> omega) | (simp [nfV]; omega)))
        | (go_ret; exact (HP2.out _ _ HB.out (by first | (simp [nfV, *]; done) | (show _ = (if x0 < x1 then 0 else x0 - x1); split <;> omega) | (show _ = (if x0 = 0 then 0 else x0 - 1); split <;> omega) | (simp [nfV]; omega))))
        | (refine bodyPost_ret (v := .tuple #[.int .i64 (x0 + x1), .bool true]) (by simp [results, Try.results14, go_sem]) rfl (HP2.out _ _ HB.out (by first | (simp [nfV, *]; done) | (show _ = (if x0 < x1 then 0 else x0 - x1); split <;> omega) | (show _ = (if x0 = 0 then 0 else x0 - 1); split <;> omega) | (simp [nfV]; omega)))) }
    { subst hf
      have n0 := hb0 0 (by omega)
      have n1 := hb0 1 (by omega)
      have c0 := h2 0 (by omega)
      have c1 := h2 1 (by omega)
      obtain ⟨rfl, -, hbw⟩ := h1 (by omega)
      clear h1 h2 hb0 hok
      simp only [Int.natCast_zero, Int.natCast_one, Nat.add_zero] at n0 c0 n1 c1
      have HP2 : Hid (∀ W x, Below w.heap.size w W → x = nfV 2 (N 0) (N 1) → post (.returned (.tuple #[.int .i64 x, .bool true])) W) := HP
      clear HP
      obtain ⟨x0, hx0⟩ : ∃ x, x = N 0 := ⟨_, rfl⟩
      rw [← hx0] at n0 c0 HP2
      obtain ⟨x1, hx1⟩ : ∃ x, x = N 1 := ⟨_, rfl⟩
      rw [← hx1] at n1 c1 HP2
      clear hx1
      clear hx0
      have hm0 : 0 ≤ x0 * x1 := Int.mul_nonneg n0.1 n1.1
      have hm1 : x0 * x1 ≤ 400 := Int.le_trans (Int.mul_le_mul_of_nonneg_left n1.2 n0.1) (by omega)
      go_enter Try.func14, Try.ntmps14
      go_wp2_with fail
      refine (HF.out _ HV.out).mono ?_
      rintro e w1 ⟨rfl, hb⟩
      replace c0 := (hb.cell (p := ⟨b, o, none⟩) hbw).trans c0
      replace c1 := (hb.cell (p := ⟨b, o + 1, none⟩) hbw).trans c1
      have HB := tuck hb
      clear hb
      go_wp2_with fail
      first
        | exact (HP2.out _ _ HB.out (by first | (simp [nfV, *]; done) | (show _ = (if x0 < x1 then 0 else x0 - x1); split <;> omega) | (show _ = (if x0 = 0 then 0 else x0 - 1); split <;> omega) | (simp [nfV]; omega)))
        | (go_ret; exact (HP2.out _ _ HB.out (by first | (simp [nfV, *]; done) | (show _ = (if x0 < x1 then 0 else x0 - x1); split <;> omega) | (show _ = (if x0 = 0 then 0 else x0 - 1); split <;> omega) | (simp [nfV]; omega))))
        | (refine bodyPost_ret (v := .tuple #[.int .i64 (x0 * x1), .bool true]) (by simp [results, Try.results14, go_sem]) rfl (HP2.out _ _ HB.out (by first | (simp [nfV, *]; done) | (show _ = (if x0 < x1 then 0 else x0 - x1); split <;> omega) | (show _ = (if x0 = 0 then 0 else x0 - 1); split <;> omega) | (simp [nfV]; omega)))) }
    { subst hf
      have n0 := hb0 0 (by omega)
      have n1 := hb0 1 (by omega)
      have c0 := h2 0 (by omega)
      have c1 := h2 1 (by omega)
      obtain ⟨rfl, -, hbw⟩ := h1 (by omega)
      clear h1 h2 hb0 hok
      simp only [Int.natCast_zero, Int.natCast_one, Nat.add_zero] at n0 c0 n1 c1
      have HP2 : Hid (∀ W x, Below w.heap.size w W → x = nfV 4 (N 0) (N 1) → post (.returned (.tuple #[.int .i64 x, .bool true])) W) := HP
      clear HP
      obtain ⟨x0, hx0⟩ : ∃ x, x = N 0 := ⟨_, rfl⟩
      rw [← hx0] at n0 c0 HP2
      obtain ⟨x1, hx1⟩ : ∃ x, x = N 1 := ⟨_, rfl⟩
      rw [← hx1] at n1 c1 HP2
      clear hx1
      clear hx0
      by_cases hs : x0 < x1
      · have hd : decide (x0 < x1) = true := decide_eq_true hs
        go_enter Try.func14, Try.ntmps14
        go_wp2_with fail
        refine (HF.out _ HV.out).mono ?_
        rintro e w1 ⟨rfl, hb⟩
        replace c0 := (hb.cell (p := ⟨b, o, none⟩) hbw).trans c0
        replace c1 := (hb.cell (p := ⟨b, o + 1, none⟩) hbw).trans c1
        have HB := tuck hb
        clear hb
        go_wp2_with fail
        first
          | exact (HP2.out _ _ HB.out (by first | (simp [nfV, *]; done) | (show _ = (if x0 < x1 then 0 else x0 - x1); split <;> omega) | (show _ = (if x0 = 0 then 0 else x0 - 1); split <;> omega) | (simp [nfV]; omega)))
          | (go_ret; exact (HP2.out _ _ HB.out (by first | (simp [nfV, *]; done) | (show _ = (if x0 < x1 then 0 else x0 - x1); split <;> omega) | (show _ = (if x0 = 0 then 0 else x0 - 1); split <;> omega) | (simp [nfV]; omega))))
          | (refine bodyPost_ret (v := .tuple #[.int .i64 (0), .bool true]) (by simp [results, Try.results14, go_sem]) rfl (HP2.out _ _ HB.out (by first | (simp [nfV, *]; done) | (show _ = (if x0 < x1 then 0 else x0 - x1); split <;> omega) | (show _ = (if x0 = 0 then 0 else x0 - 1); split <;> omega) | (simp [nfV]; omega))))
      · have hd : decide (x0 < x1) = false := decide_eq_false hs
        go_enter Try.func14, Try.ntmps14
        go_wp2_with fail
        refine (HF.out _ HV.out).mono ?_
        rintro e w1 ⟨rfl, hb⟩
        replace c0 := (hb.cell (p := ⟨b, o, none⟩) hbw).trans c0
        replace c1 := (hb.cell (p := ⟨b, o + 1, none⟩) hbw).trans c1
        have HB := tuck hb
        clear hb
        go_wp2_with fail
        first
          | exact (HP2.out _ _ HB.out (by first | (simp [nfV, *]; done) | (show _ = (if x0 < x1 then 0 else x0 - x1); split <;> omega) | (show _ = (if x0 = 0 then 0 else x0 - 1); split <;> omega) | (simp [nfV]; omega)))
          | (go_ret; exact (HP2.out _ _ HB.out (by first | (simp [nfV, *]; done) | (show _ = (if x0 < x1 then 0 else x0 - x1); split <;> omega) | (show _ = (if x0 = 0 then 0 else x0 - 1); split <;> omega) | (simp [nfV]; omega))))
          | (refine bodyPost_ret (v := .tuple #[.int .i64 (x0 - x1), .bool true]) (by simp [results, Try.results14, go_sem]) rfl (HP2.out _ _ HB.out (by first | (simp [nfV, *]; done) | (show _ = (if x0 < x1 then 0 else x0 - x1); split <;> omega) | (show _ = (if x0 = 0 then 0 else x0 - 1); split <;> omega) | (simp [nfV]; omega)))) }
  · rcases hf with hf | hf | hf
    { subst hf
      have n0 := hb0 0 (by omega)
      skip
      have c0 := h2 0 (by omega)
      skip
      obtain ⟨rfl, -, hbw⟩ := h1 (by omega)
      clear h1 h2 hb0 hok
      simp only [Int.natCast_zero, Int.natCast_one, Nat.add_zero] at n0 c0 
      have HP2 : Hid (∀ W x, Below w.heap.size w W → x = nfV 3 (N 0) (N 0) → post (.returned (.tuple #[.int .i64 x, .bool true])) W) := HP
      clear HP
      obtain ⟨x0, hx0⟩ : ∃ x, x = N 0 := ⟨_, rfl⟩
      rw [← hx0] at n0 c0 HP2
      skip
      clear hx0
      by_cases hs : x0 = 0
      · subst hs
        go_enter Try.func14, Try.ntmps14
        go_wp2_with fail
        refine (HF.out _ HV.out).mono ?_
        rintro e w1 ⟨rfl, hb⟩
        replace c0 := (hb.cell (p := ⟨b, o, none⟩) hbw).trans c0
        skip
        have HB := tuck hb
        clear hb
        go_wp2_with fail
        first
          | exact (HP2.out _ _ HB.out (by first | (simp [nfV, *]; done) | (show _ = (if x0 < x1 then 0 else x0 - x1); split <;> omega) | (show _ = (if x0 = 0 then 0 else x0 - 1); split <;> omega) | (simp [nfV]; omega)))
          | (go_ret; exact (HP2.out _ _ HB.out (by first | (simp [nfV, *]; done) | (show _ = (if x0 < x1 then 0 else x0 - x1); split <;> omega) | (show _ = (if x0 = 0 then 0 else x0 - 1); split <;> omega) | (simp [nfV]; omega))))
          | (refine bodyPost_ret (v := .tuple #[.int .i64 (0), .bool true]) (by simp [results, Try.results14, go_sem]) rfl (HP2.out _ _ HB.out (by first | (simp [nfV, *]; done) | (show _ = (if x0 < x1 then 0 else x0 - x1); split <;> omega) | (show _ = (if x0 = 0 then 0 else x0 - 1); split <;> omega) | (simp [nfV]; omega))))
      · have hd : (x0 == 0) = false := by simpa using hs
        go_enter Try.func14, Try.ntmps14
        go_wp2_with fail
        refine (HF.out _ HV.out).mono ?_
        rintro e w1 ⟨rfl, hb⟩
        replace c0 := (hb.cell (p := ⟨b, o, none⟩) hbw).trans c0
        skip
        have HB := tuck hb
        clear hb
        go_wp2_with fail
        first
          | exact (HP2.out _ _ HB.out (by first | (simp [nfV, *]; done) | (show _ = (if x0 < x1 then 0 else x0 - x1); split <;> omega) | (show _ = (if x0 = 0 then 0 else x0 - 1); split <;> omega) | (simp [nfV]; omega)))
          | (go_ret; exact (HP2.out _ _ HB.out (by first | (simp [nfV, *]; done) | (show _ = (if x0 < x1 then 0 else x0 - x1); split <;> omega) | (show _ = (if x0 = 0 then 0 else x0 - 1); split <;> omega) | (simp [nfV]; omega))))
          | (refine bodyPost_ret (v := .tuple #[.int .i64 (x0 - 1), .bool true]) (by simp [results, Try.results14, go_sem]) rfl (HP2.out _ _ HB.out (by first | (simp [nfV, *]; done) | (show _ = (if x0 < x1 then 0 else x0 - x1); split <;> omega) | (show _ = (if x0 = 0 then 0 else x0 - 1); split <;> omega) | (simp [nfV]; omega)))) }
    { subst hf
      have n0 := hb0 0 (by omega)
      skip
      have c0 := h2 0 (by omega)
      skip
      obtain ⟨rfl, -, hbw⟩ := h1 (by omega)
      clear h1 h2 hb0 hok
      simp only [Int.natCast_zero, Int.natCast_one, Nat.add_zero] at n0 c0 
      have HP2 : Hid (∀ W x, Below w.heap.size w W → x = nfV 5 (N 0) (N 0) → post (.returned (.tuple #[.int .i64 x, .bool true])) W) := HP
      clear HP
      obtain ⟨x0, hx0⟩ : ∃ x, x = N 0 := ⟨_, rfl⟩
      rw [← hx0] at n0 c0 HP2
      skip
      clear hx0
      by_cases hs : x0 = 0
      · subst hs
        go_enter Try.func14, Try.ntmps14
        go_wp2_with fail
        refine (HF.out _ HV.out).mono ?_
        rintro e w1 ⟨rfl, hb⟩
        replace c0 := (hb.cell (p := ⟨b, o, none⟩) hbw).trans c0
        skip
        have HB := tuck hb
        clear hb
        go_wp2_with fail
        first
          | exact (HP2.out _ _ HB.out (by first | (simp [nfV, *]; done) | (show _ = (if x0 < x1 then 0 else x0 - x1); split <;> omega) | (show _ = (if x0 = 0 then 0 else x0 - 1); split <;> omega) | (simp [nfV]; omega)))
          | (go_ret; exact (HP2.out _ _ HB.out (by first | (simp [nfV, *]; done) | (show _ = (if x0 < x1 then 0 else x0 - x1); split <;> omega) | (show _ = (if x0 = 0 then 0 else x0 - 1); split <;> omega) | (simp [nfV]; omega))))
          | (refine bodyPost_ret (v := .tuple #[.int .i64 (1), .bool true]) (by simp [results, Try.results14, go_sem]) rfl (HP2.out _ _ HB.out (by first | (simp [nfV, *]; done) | (show _ = (if x0 < x1 then 0 else x0 - x1); split <;> omega) | (show _ = (if x0 = 0 then 0 else x0 - 1); split <;> omega) | (simp [nfV]; omega))))
      · have hd : (x0 == 0) = false := by simpa using hs
        go_enter Try.func14, Try.ntmps14
        go_wp2_with fail
        refine (HF.out _ HV.out).mono ?_
        rintro e w1 ⟨rfl, hb⟩
        replace c0 := (hb.cell (p := ⟨b, o, none⟩) hbw).trans c0
        skip
        have HB := tuck hb
        clear hb
        go_wp2_with fail
        first
          | exact (HP2.out _ _ HB.out (by first | (simp [nfV, *]; done) | (show _ = (if x0 < x1 then 0 else x0 - x1); split <;> omega) | (show _ = (if x0 = 0 then 0 else x0 - 1); split <;> omega) | (simp [nfV]; omega)))
          | (go_ret; exact (HP2.out _ _ HB.out (by first | (simp [nfV, *]; done) | (show _ = (if x0 < x1 then 0 else x0 - x1); split <;> omega) | (show _ = (if x0 = 0 then 0 else x0 - 1); split <;> omega) | (simp [nfV]; omega))))
          | (refine bodyPost_ret (v := .tuple #[.int .i64 (0), .bool true]) (by simp [results, Try.results14, go_sem]) rfl (HP2.out _ _ HB.out (by first | (simp [nfV, *]; done) | (show _ = (if x0 < x1 then 0 else x0 - x1); split <;> omega) | (show _ = (if x0 = 0 then 0 else x0 - 1); split <;> omega) | (simp [nfV]; omega)))) }
    { subst hf
      have n0 := hb0 0 (by omega)
      skip
      have c0 := h2 0 (by omega)
      skip
      obtain ⟨rfl, -, hbw⟩ := h1 (by omega)
      clear h1 h2 hb0 hok
      simp only [Int.natCast_zero, Int.natCast_one, Nat.add_zero] at n0 c0 
      have HP2 : Hid (∀ W x, Below w.heap.size w W → x = nfV 6 (N 0) (N 0) → post (.returned (.tuple #[.int .i64 x, .bool true])) W) := HP
      clear HP
      obtain ⟨x0, hx0⟩ : ∃ x, x = N 0 := ⟨_, rfl⟩
      rw [← hx0] at n0 c0 HP2
      skip
      clear hx0
      go_enter Try.func14, Try.ntmps14
      go_wp2_with fail
      refine (HF.out _ HV.out).mono ?_
      rintro e w1 ⟨rfl, hb⟩
      replace c0 := (hb.cell (p := ⟨b, o, none⟩) hbw).trans c0
      skip
      have HB := tuck hb
      clear hb
      go_wp2_with fail
      first
        | exact (HP2.out _ _ HB.out (by first | (simp [nfV, *]; done) | (show _ = (if x0 < x1 then 0 else x0 - x1); split <;> omega) | (show _ = (if x0 = 0 then 0 else x0 - 1); split <;> omega) | (simp [nfV]; omega)))
        | (go_ret; exact (HP2.out _ _ HB.out (by first | (simp [nfV, *]; done) | (show _ = (if x0 < x1 then 0 else x0 - x1); split <;> omega) | (show _ = (if x0 = 0 then 0 else x0 - 1); split <;> omega) | (simp [nfV]; omega))))
        | (refine bodyPost_ret (v := .tuple #[.int .i64 (2 * x0), .bool true]) (by simp [results, Try.results14, go_sem]) rfl (HP2.out _ _ HB.out (by first | (simp [nfV, *]; done) | (show _ = (if x0 < x1 then 0 else x0 - x1); split <;> omega) | (show _ = (if x0 = 0 then 0 else x0 - 1); split <;> omega) | (simp [nfV]; omega)))) }

end Go.Proofs.Ytjhjnkeildeedaa
