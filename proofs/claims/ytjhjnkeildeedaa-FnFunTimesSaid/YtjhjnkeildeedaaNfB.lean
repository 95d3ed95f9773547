/-
  The program's FunArity and FunValue.
-/
import Derived.Test.YtjhjnkeildeedaaNfC
namespace Go.Proofs.Ytjhjnkeildeedaa
open Go.RowKit
set_option linter.unusedVariables false
set_option linter.unusedSimpArgs false

theorem NfVal.form {f : Int} {v : Value} {w : World} (h : NfVal f v w) : v = .nilFunc ∨ ∃ k c, v = .func k #[] c := by
  by_cases h2 : nfA f = 2
  · obtain ⟨g, h1, _⟩ := h.2.1 h2; exact Or.inr ⟨_, _, h1⟩
  by_cases h1 : nfA f = 1
  · obtain ⟨g, h3, _⟩ := h.2.2 h1; exact Or.inr ⟨_, _, h3⟩
  · have h3 : nfA f = -1 := by
      unfold nfA at h1 h2 ⊢
      split at h2
      · exact absurd rfl h2
      · rename_i h0
        rw [if_neg h0] at h1 ⊢
        split at h1
        · exact absurd rfl h1
        · rename_i h4; rw [if_neg h4]
    exact Or.inl (h.1 h3)

/-- Outside the limits. -/
def NumOut (n : Int) : Prop := ¬ (0 ≤ n ∧ n ≤ 20)
set_option maxRecDepth 100000 in
theorem refused_any (n : Int) (w : World) : Calls Try.prog 62 #[.int .i64 n] w (fun e w' => e = .returned (.bool (!decide (0 ≤ n ∧ n ≤ 20))) ∧ w' = w) := by
  have HP : Hid ((fun (e : Ending) w' => e = .returned (.bool (!decide (0 ≤ n ∧ n ≤ 20))) ∧ w' = w) (.returned (.bool (!decide (0 ≤ n ∧ n ≤ 20)))) w) := tuck ⟨rfl, rfl⟩
  generalize (fun (e : Ending) w' => e = .returned (.bool (!decide (0 ≤ n ∧ n ≤ 20))) ∧ w' = w) = post at *
  have HH : Hid (∀ W, Calls Try.prog 45 #[.int .i64 n] W (fun e w' => e = .returned (.bool (decide (0 ≤ n ∧ n ≤ 20))) ∧ w' = W)) := tuck fun W => hasNum_any n W
  generalize decide (0 ≤ n ∧ n ≤ 20) = d at *
  go_enter Try.func62, Try.ntmps62
  go_wp2_with fail
  refine (HH.out _).mono ?_
  rintro e w1 ⟨rfl, rfl⟩
  go_wp2_with fail
  first
    | exact HP.out
    | (go_ret; exact HP.out)

def IdxPost (w : World) (b : Prop) (e : Ending) (w' : World) : Prop := ∃ r : Int, e = .returned (.int .i64 r) ∧ (0 ≤ r ↔ b) ∧ Below w.heap.size w w'

set_option maxRecDepth 100000 in
set_option maxHeartbeats 1600000 in
theorem idxInts_any (N : Int → Int) (len : Nat) (w : World) (v : Value) (hlen : len ≤ 1048576) (hv : Ints w 0 N len v) : Calls Try.prog 75 #[v, .func (.func 62) #[] #[]] w (IdxPost w (∃ i : Nat, i < len ∧ NumOut (N i))) := by
  obtain ⟨a, cap, b, o, rfl, h1, h2⟩ := hv
  have H1 := tuck h1
  have H2 := tuck h2
  have HY : Hid (∀ W (q : Nat), Below w.heap.size w W → q < len → NumOut (N q) → IdxPost w (∃ i : Nat, i < len ∧ NumOut (N i)) (.returned (.int .i64 q)) W) := tuck fun W q hb hq h => ⟨q, rfl, ⟨fun _ => ⟨q, hq, h⟩, fun _ => by omega⟩, hb⟩
  have HN : Hid (∀ W, Below w.heap.size w W → (∀ i : Nat, i < len → ¬ NumOut (N i)) → IdxPost w (∃ i : Nat, i < len ∧ NumOut (N i)) (.returned (.int .i64 (-1))) W) := tuck fun W hb h => ⟨-1, rfl, ⟨fun h0 => absurd h0 (by decide), fun ⟨i, hi, h0⟩ => absurd h0 (h i hi)⟩, hb⟩
  generalize IdxPost w (∃ i : Nat, i < len ∧ NumOut (N i)) = post at *
  clear h1 h2
  go_enter Try.func75, Try.ntmps75
  go_wp2
  go_loopw [8] (fun iv wr => ∃ (q : Nat), q ≤ len ∧ iv = .int .i64 q ∧ Below w.heap.size w wr ∧ ∀ i : Nat, i < q → ¬ NumOut (N i)) (fun iv _ => len - (intOf iv).toNat)
  case atStart => exact ⟨0, Nat.zero_le _, rfl, Below.refl _ _, fun i h => absurd h (Nat.not_lt_zero _)⟩
  case round =>
    obtain ⟨q, hq, rfl, hb, hall⟩ := hrel
    have HB := tuck hb
    have HALL := tuck hall
    by_cases hlt : q < len
    · have hlti : ((q : Int) < (len : Int)) := by omega
      have hqi : (0 : Int) ≤ (q : Int) := by omega
      obtain ⟨rfl, -, hbw⟩ := H1.out (by omega)
      have c0 := (hb.cell (p := ⟨b, o + q, none⟩) hbw).trans (H2.out q hlt)
      have HYQ := tuck (HY.out wr q hb hlt)
      have HNX : Hid (¬ NumOut (N q) → ∀ i : Nat, i < q + 1 → ¬ NumOut (N i)) := tuck fun h i hi => by
        by_cases e : i = q
        · subst e; exact h
        · exact hall i (by omega)
      clear hb hall
      generalize N q = x at *
      by_cases hx : 0 ≤ x ∧ x ≤ 20
      · have HC : Hid (Calls Try.prog 62 #[.int .i64 x] wr (fun e w' => e = .returned (.bool false) ∧ w' = wr)) := tuck (by have := refused_any x wr; rwa [show (!decide (0 ≤ x ∧ x ≤ 20)) = false by simpa using hx] at this)
        have HX : Hid (¬ NumOut x) := tuck fun h => h hx
        clear hx
        go_wp2_with fail
        refine HC.out.mono ?_
        rintro e w1 ⟨rfl, rfl⟩
        go_wp2_with fail
        go_roundw
        case rel => exact ⟨q + 1, by omega, by go_num, HB.out, HNX.out HX.out⟩
        case measure => simp [intOf]; omega
      · have HC : Hid (Calls Try.prog 62 #[.int .i64 x] wr (fun e w' => e = .returned (.bool true) ∧ w' = wr)) := tuck (by have := refused_any x wr; rwa [show (!decide (0 ≤ x ∧ x ≤ 20)) = true by simp only [Bool.not_eq_true', decide_eq_false_iff_not]; exact hx] at this)
        have HX : Hid (NumOut x) := tuck hx
        clear hx
        go_wp2_with fail
        refine HC.out.mono ?_
        rintro e w1 ⟨rfl, rfl⟩
        go_wp2_with fail
        first
          | exact HYQ.out HX.out
          | (go_ret; exact HYQ.out HX.out)
    · have hge : ¬ ((q : Int) < (len : Int)) := by omega
      have e : q = len := by omega
      subst e
      clear hb hall
      go_wp2_with fail
      first
        | exact HN.out _ HB.out HALL.out
        | (go_ret; exact HN.out _ HB.out HALL.out)

set_option maxRecDepth 100000 in
theorem contInts_any (N : Int → Int) (len : Nat) (w : World) (v : Value) (hlen : len ≤ 1048576) (hv : Ints w 0 N len v) : Calls Try.prog 63 #[v, .func (.func 62) #[] #[]] w (BoolPost w (tr (∃ i : Nat, i < len ∧ NumOut (N i)))) := by
  have HI := tuck (idxInts_any N len w v hlen hv)
  obtain ⟨a, cap, rfl⟩ := hv.form
  clear hv
  generalize (∃ i : Nat, i < len ∧ NumOut (N i)) = b at *
  have HP : Hid (∀ W r, (0 ≤ r ↔ b) → Below w.heap.size w W → BoolPost w (tr b) (.returned (.bool (decide ((0 : Int) ≤ r)))) W) := tuck fun W r h hb => ⟨by
    by_cases hbb : b
    · rw [tr_of hbb, decide_eq_true (h.2 hbb)]
    · rw [tr_not hbb, decide_eq_false (fun h0 => hbb (h.1 h0))], hb⟩
  generalize BoolPost w (tr b) = post at *
  go_enter Try.func63, Try.ntmps63
  go_wp2_with fail
  refine HI.out.mono ?_
  rintro e w1 ⟨r, rfl, hr, hb⟩
  have HF := tuck (HP.out w1 r hr hb)
  clear hr hb HP
  go_wp2_with fail
  first
    | exact HF.out
    | (go_ret; exact HF.out)

set_option maxRecDepth 100000 in
theorem accepts_any (f : Int) (s : ByteArray) (vf : Value) (N : Int → Int) (len : Nat) (w : World) (v : Value) (hlen : len ≤ 1048576) (hv : Ints w 0 N len v) : Calls Try.prog 35 #[.agg #[.string s, .int .i64 (nfA f), vf], v] w (BoolPost w (tr (NfOk f N len))) := by
  have HB := tuck (below1 w (.cells #[.string s, .int .i64 (nfA f), vf] 50))
  have HC : Hid (∀ W, Ints W 0 N len v → Calls Try.prog 63 #[v, .func (.func 62) #[] #[]] W (BoolPost W (tr (∃ i : Nat, i < len ∧ NumOut (N i))))) := tuck fun W h => contInts_any N len W v hlen h
  have HV := tuck hv
  have HP : Hid (∀ W x, Below w.heap.size w W → x = tr (NfOk f N len) → BoolPost w (tr (NfOk f N len)) (.returned (.bool x)) W) := tuck fun W x hb h => by rw [h]; exact ⟨rfl, hb⟩
  obtain ⟨a, cap, rfl⟩ := hv.form
  clear hv
  by_cases hl : (len : Int) = nfA f
  · have e : tr (NfOk f N len) = !tr (∃ i : Nat, i < len ∧ NumOut (N i)) := by
      by_cases h : ∃ i : Nat, i < len ∧ NumOut (N i)
      · rw [tr_of h, tr_not (fun h0 : NfOk f N len => by obtain ⟨i, hi, h1⟩ := h; exact h1 (h0.2 i hi))]; rfl
      · rw [tr_not h, tr_of (show NfOk f N len from ⟨hl, fun i hi => Classical.byContradiction fun h0 => h ⟨i, hi, h0⟩⟩)]; rfl
    have hd : ((len : Int) == nfA f) = true := by simpa using hl
    rw [e] at HP ⊢
    generalize tr (∃ i : Nat, i < len ∧ NumOut (N i)) = x at *
    generalize BoolPost w (!x) = post at *
    clear e hl
    generalize nfA f = A at *
    have FB := tuck (FBox.new w s A vf)
    obtain ⟨z, c0, c1, c2, cf⟩ := FB.out.facts
    go_enter Try.func35, Try.ntmps35
    go_wp2_with fail
    refine (HC.out _ (HV.out.below HB.out)).mono ?_
    rintro e w1 ⟨rfl, hb⟩
    replace HB := tuck (bAfter HB.out hb)
    clear hb c0 c1 c2 cf
    go_wp2_with fail
    first
      | exact HP.out _ _ HB.out rfl
      | (go_ret; exact HP.out _ _ HB.out rfl)
  · have hd : ((len : Int) == nfA f) = false := by simpa using hl
    have HF : Hid (∀ W, Below w.heap.size w W → BoolPost w (tr (NfOk f N len)) (.returned (.bool false)) W) := tuck fun W hb => HP.out W false hb (tr_not fun h => hl h.1).symm
    generalize BoolPost w (tr (NfOk f N len)) = post at *
    clear HP hl
    generalize nfA f = A at *
    have FB := tuck (FBox.new w s A vf)
    obtain ⟨z, c0, c1, c2, cf⟩ := FB.out.facts
    go_enter Try.func35, Try.ntmps35
    go_wp2_with fail
    first
      | exact HF.out _ HB.out
      | (go_ret; exact HF.out _ HB.out)

set_option maxRecDepth 100000 in
theorem arityI_any (f : Int) (w : World) : Calls Try.prog 13 #[.int .i64 f] w (fun e w' => Below w.heap.size w w' ∧ e = .returned (.int .i64 (nfA f))) := by
  have HP : Hid (∀ W, Below w.heap.size w W → (fun (e : Ending) w' => Below w.heap.size w w' ∧ e = .returned (.int .i64 (nfA f))) (.returned (.int .i64 (nfA f))) W) := tuck fun W h => ⟨h, rfl⟩
  have HN : Hid (Calls Try.prog 33 #[.int .i64 f] w (NfPost f w)) := tuck (numFun_any f w)
  generalize (fun (e : Ending) w' => Below w.heap.size w w' ∧ e = .returned (.int .i64 (nfA f))) = post at *
  go_enter Try.func13, Try.ntmps13
  go_wp2_with fail
  refine HN.out.mono ?_
  rintro e w1 ⟨hb, v, rfl, -⟩
  have HB := tuck hb
  clear hb
  generalize nfA f = A at *
  generalize nfT f = T at *
  have hfd : ∀ w : World, (Instr.field 50 (.agg #[.string T, .int .i64 A, v]) 1).run Try.prog w = .ok (.int .i64 A) w := fun _ => by kernel_rfl
  go_wp2_with fail
  first
    | exact HP.out _ HB.out
    | (go_ret; exact HP.out _ HB.out)

theorem outer2_any (f : Int) (hf : f = 1 ∨ f = 2 ∨ f = 4) (N : Int → Int) (g : Nat) (w : World) (v : Value) (hv : Ints w 0 N 2 v) (hN : ∀ i : Nat, i < 2 → 0 ≤ N i ∧ N i ≤ 20) (hg : g < w.heap.size) (hc : w.cell? ⟨g, 0, none⟩ = some (nfF f)) : Calls Try.prog 73 #[v, .pointer (some ⟨g, 0, none⟩)] w (fun e w' => e = .returned (.int .i64 (nfV f (N 0) (N 1))) ∧ ∃ m, w' = w.drewN m) := by
  rcases hf with rfl | rfl | rfl
  · exact out1_any N g w v hv hN hg hc
  · exact out2_any N g w v hv hN hg hc
  · exact out4_any N g w v hv hN hg hc

theorem outer1_any (f : Int) (hf : f = 3 ∨ f = 5 ∨ f = 6) (N : Int → Int) (g : Nat) (w : World) (v : Value) (hv : Ints w 0 N 1 v) (hN : ∀ i : Nat, i < 1 → 0 ≤ N i ∧ N i ≤ 20) (hg : g < w.heap.size) (hc : w.cell? ⟨g, 0, none⟩ = some (nfF f)) : Calls Try.prog 74 #[v, .pointer (some ⟨g, 0, none⟩)] w (fun e w' => e = .returned (.int .i64 (nfV f (N 0) (N 0))) ∧ ∃ m, w' = w.drewN m) := by
  rcases hf with rfl | rfl | rfl
  · exact out3_any N g w v hv hN hg hc
  · exact out5_any N g w v hv hN hg hc
  · exact out6_any N g w v hv hN hg hc


set_option maxRecDepth 100000 in
set_option maxHeartbeats 3200000 in
theorem valI_any (f : Int) (N : Int → Int) (len : Nat) (w : World) (v : Value) (hlen : len ≤ 1048576) (hv : Ints w 0 N len v) : Calls Try.prog 16 #[.int .i64 f, v] w (fun e w' => Below w.heap.size w w' ∧ e = .returned (.tuple #[.int .i64 (nfR f N len), .bool (tr (NfOk f N len))])) := by
  have HNF : Hid (Calls Try.prog 33 #[.int .i64 f] w (NfPost f w)) := tuck (numFun_any f w)
  have HAC : Hid (∀ W T u, Ints W 0 N len v → Calls Try.prog 35 #[.agg #[.string T, .int .i64 (nfA f), u], v] W (BoolPost W (tr (NfOk f N len)))) := tuck fun W T u h => accepts_any f T u N len W v hlen h
  have HV := tuck hv
  by_cases hok : NfOk f N len
  rotate_left
  · rw [tr_not hok] at HAC ⊢
    rw [show nfR f N len = 0 from if_neg hok]
    have HP : Hid (∀ W, Below w.heap.size w W → (fun (e : Ending) w' => Below w.heap.size w w' ∧ e = .returned (.tuple #[.int .i64 0, .bool false])) (.returned (.tuple #[.int .i64 0, .bool false])) W) := tuck fun W hb => ⟨hb, rfl⟩
    generalize (fun (e : Ending) w' => Below w.heap.size w w' ∧ e = .returned (.tuple #[.int .i64 0, .bool false])) = post at *
    obtain ⟨a, cap, rfl⟩ := hv.form
    clear hv hok
    go_enter Try.func16, Try.ntmps16
    go_wp2_with fail
    refine HNF.out.mono ?_
    rintro e w1 ⟨hb, vf, rfl, hvf⟩
    have HB := tuck hb
    have hform := hvf.form
    clear hb hvf
    generalize nfA f = A at *
    generalize nfT f = T at *
    rcases hform with rfl | ⟨k0, c0', rfl⟩
    · have HB1 : Hid (Below w1.heap.size w1 (w1.alloc (.cells #[.string T, .int .i64 A, .nilFunc] 50))) := tuck (below1 _ _)
      have FB := tuck (FBox.new w1 T A .nilFunc)
      obtain ⟨z, c0, c1, c2, cf⟩ := FB.out.facts
      go_wp2_with fail
      generalize w1.alloc (.cells #[.string T, .int .i64 A, .nilFunc] 50) = W1 at *
      refine (HAC.out _ _ _ (HV.out.below (bAfter HB.out HB1.out))).mono ?_
      rintro e w2 ⟨rfl, hb⟩
      replace HB := tuck (bAfter (bAfter HB.out HB1.out) hb)
      clear hb z c0 c1 c2 cf
      go_wp2_with fail
      first
        | exact (HP.out _ HB.out)
        | (go_ret; exact (HP.out _ HB.out))
        | (refine bodyPost_ret (v := .tuple #[.int .i64 0, .bool false]) (by simp [results, Try.results16, go_sem]) rfl (HP.out _ HB.out))
    · have HB1 : Hid (Below w1.heap.size w1 (w1.alloc (.cells #[.string T, .int .i64 A, (.func k0 #[] c0')] 50))) := tuck (below1 _ _)
      have FB := tuck (FBox.new w1 T A (.func k0 #[] c0'))
      obtain ⟨z, c0, c1, c2, cf⟩ := FB.out.facts
      go_wp2_with fail
      generalize w1.alloc (.cells #[.string T, .int .i64 A, (.func k0 #[] c0')] 50) = W1 at *
      refine (HAC.out _ _ _ (HV.out.below (bAfter HB.out HB1.out))).mono ?_
      rintro e w2 ⟨rfl, hb⟩
      replace HB := tuck (bAfter (bAfter HB.out HB1.out) hb)
      clear hb z c0 c1 c2 cf
      go_wp2_with fail
      first
        | exact (HP.out _ HB.out)
        | (go_ret; exact (HP.out _ HB.out))
        | (refine bodyPost_ret (v := .tuple #[.int .i64 0, .bool false]) (by simp [results, Try.results16, go_sem]) rfl (HP.out _ HB.out))
  rw [tr_of hok] at HAC ⊢
  rw [show nfR f N len = nfV f (N 0) (N ((len - 1 : Nat) : Int)) from if_pos hok]
  obtain ⟨hA', hN⟩ := hok
  rcases nfA_cases hA' with ⟨rfl, hf⟩ | ⟨rfl, hf⟩
  · have hA : nfA f = 2 := hA'.symm
    clear hA'
    have HP : Hid (∀ W, Below w.heap.size w W → (fun (e : Ending) w' => Below w.heap.size w w' ∧ e = .returned (.tuple #[.int .i64 (nfV f (N 0) (N ((2 - 1 : Nat) : Int))), .bool true])) (.returned (.tuple #[.int .i64 (nfV f (N 0) (N 1)), .bool true])) W) := tuck fun W hb => ⟨hb, rfl⟩
    generalize (fun (e : Ending) w' => Below w.heap.size w w' ∧ e = .returned (.tuple #[.int .i64 (nfV f (N 0) (N ((2 - 1 : Nat) : Int))), .bool true])) = post at *
    obtain ⟨a, cap, rfl⟩ := hv.form
    clear hv
    go_enter Try.func16, Try.ntmps16
    go_wp2_with fail
    refine HNF.out.mono ?_
    rintro e w1 ⟨hb, vf, rfl, hvf⟩
    have HB := tuck hb
    clear hb HNF
    obtain ⟨g, rfl, hg, hc⟩ := hvf.2.1 hA
    have HO : Hid (∀ W, Below w1.heap.size w1 W → Ints W 0 N 2 (.slice a 2 cap) → Calls Try.prog 73 #[.slice a 2 cap, .pointer (some ⟨g, 0, none⟩)] W (fun e w' => e = .returned (.int .i64 (nfV f (N 0) (N 1))) ∧ ∃ m, w' = W.drewN m)) := tuck fun W h1 h2 => outer2_any f hf N g W _ h2 hN (Nat.lt_of_lt_of_le hg h1.size) ((h1.cell (p := ⟨g, 0, none⟩) hg).trans hc)
    clear hvf hg hc hf hA hN
    generalize nfV f (N 0) (N 1) = R at *
    generalize nfA f = A at *
    generalize nfT f = T at *
    have HB1 : Hid (Below w1.heap.size w1 (w1.alloc (.cells #[.string T, .int .i64 A, .func (.func 73) #[] #[.pointer (some ⟨g, 0, none⟩)]] 50))) := tuck (below1 _ _)
    have FB := tuck (FBox.new w1 T A (.func (.func 73) #[] #[.pointer (some ⟨g, 0, none⟩)]))
    obtain ⟨z, c0, c1, c2, cf⟩ := FB.out.facts
    go_wp2_with fail
    generalize w1.alloc (.cells #[.string T, .int .i64 A, .func (.func 73) #[] #[.pointer (some ⟨g, 0, none⟩)]] 50) = W1 at *
    refine (HAC.out _ _ _ (HV.out.below (bAfter HB.out HB1.out))).mono ?_
    rintro e w2 ⟨rfl, hb⟩
    replace FB := tuck (FB.out.below hb)
    replace HB1 := tuck (bAfter HB1.out hb)
    clear hb z c0 c1 c2 cf
    obtain ⟨z, c0, c1, c2, cf⟩ := FB.out.facts
    go_wp2_with fail
    refine (HO.out _ HB1.out (HV.out.below (bAfter HB.out HB1.out))).mono ?_
    rintro e w3 ⟨rfl, m, rfl⟩
    have HB3 := tuck (bAfter (bAfter HB.out HB1.out) (bDrewN (Below.refl _ _) m))
    clear z c0 c1 c2 cf
    go_wp2_with fail
    first
      | exact (HP.out _ HB3.out)
      | (go_ret; exact (HP.out _ HB3.out))
      | (refine bodyPost_ret (v := .tuple #[.int .i64 R, .bool true]) (by simp [results, Try.results16, go_sem]) rfl (HP.out _ HB3.out))
  · have hA : nfA f = 1 := hA'.symm
    clear hA'
    have HP : Hid (∀ W, Below w.heap.size w W → (fun (e : Ending) w' => Below w.heap.size w w' ∧ e = .returned (.tuple #[.int .i64 (nfV f (N 0) (N ((1 - 1 : Nat) : Int))), .bool true])) (.returned (.tuple #[.int .i64 (nfV f (N 0) (N 0)), .bool true])) W) := tuck fun W hb => ⟨hb, rfl⟩
    generalize (fun (e : Ending) w' => Below w.heap.size w w' ∧ e = .returned (.tuple #[.int .i64 (nfV f (N 0) (N ((1 - 1 : Nat) : Int))), .bool true])) = post at *
    obtain ⟨a, cap, rfl⟩ := hv.form
    clear hv
    go_enter Try.func16, Try.ntmps16
    go_wp2_with fail
    refine HNF.out.mono ?_
    rintro e w1 ⟨hb, vf, rfl, hvf⟩
    have HB := tuck hb
    clear hb HNF
    obtain ⟨g, rfl, hg, hc⟩ := hvf.2.2 hA
    have HO : Hid (∀ W, Below w1.heap.size w1 W → Ints W 0 N 1 (.slice a 1 cap) → Calls Try.prog 74 #[.slice a 1 cap, .pointer (some ⟨g, 0, none⟩)] W (fun e w' => e = .returned (.int .i64 (nfV f (N 0) (N 0))) ∧ ∃ m, w' = W.drewN m)) := tuck fun W h1 h2 => outer1_any f hf N g W _ h2 hN (Nat.lt_of_lt_of_le hg h1.size) ((h1.cell (p := ⟨g, 0, none⟩) hg).trans hc)
    clear hvf hg hc hf hA hN
    generalize nfV f (N 0) (N 0) = R at *
    generalize nfA f = A at *
    generalize nfT f = T at *
    have HB1 : Hid (Below w1.heap.size w1 (w1.alloc (.cells #[.string T, .int .i64 A, .func (.func 74) #[] #[.pointer (some ⟨g, 0, none⟩)]] 50))) := tuck (below1 _ _)
    have FB := tuck (FBox.new w1 T A (.func (.func 74) #[] #[.pointer (some ⟨g, 0, none⟩)]))
    obtain ⟨z, c0, c1, c2, cf⟩ := FB.out.facts
    go_wp2_with fail
    generalize w1.alloc (.cells #[.string T, .int .i64 A, .func (.func 74) #[] #[.pointer (some ⟨g, 0, none⟩)]] 50) = W1 at *
    refine (HAC.out _ _ _ (HV.out.below (bAfter HB.out HB1.out))).mono ?_
    rintro e w2 ⟨rfl, hb⟩
    replace FB := tuck (FB.out.below hb)
    replace HB1 := tuck (bAfter HB1.out hb)
    clear hb z c0 c1 c2 cf
    obtain ⟨z, c0, c1, c2, cf⟩ := FB.out.facts
    go_wp2_with fail
    refine (HO.out _ HB1.out (HV.out.below (bAfter HB.out HB1.out))).mono ?_
    rintro e w3 ⟨rfl, m, rfl⟩
    have HB3 := tuck (bAfter (bAfter HB.out HB1.out) (bDrewN (Below.refl _ _) m))
    clear z c0 c1 c2 cf
    go_wp2_with fail
    first
      | exact (HP.out _ HB3.out)
      | (go_ret; exact (HP.out _ HB3.out))
      | (refine bodyPost_ret (v := .tuple #[.int .i64 R, .bool true]) (by simp [results, Try.results16, go_sem]) rfl (HP.out _ HB3.out))

end Go.Proofs.Ytjhjnkeildeedaa
