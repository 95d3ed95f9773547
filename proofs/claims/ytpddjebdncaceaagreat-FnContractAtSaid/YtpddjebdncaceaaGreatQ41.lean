/-
  Pz, Py, Pw.
-/
import Derived.Test.YtpddjebdncaceaaGreatQ23
import Derived.Test.YtpddjebdncaceaaGreatQ33
import Derived.Test.YtpddjebdncaceaaGreatQ36
import Derived.Test.YtpddjebdncaceaaGreatQ39
namespace Go.Proofs.YtpddjebdncaceaaGreat
open Go.RowKit
def PW (s : ByteArray) (w : World) (e : Ending) (w' : World) : Prop :=
 Below w.heap.size w w' ∧ ∃ (T : Tm) (a : Option Addr) (c : Nat) (nx : Int), e = .returned (.tuple #[.agg #[.int .i64 T.kind, .int .i64 T.num, .slice a T.kids.length c], .int .i64 nx]) ∧ SlIn w' w.heap.size T.kids (.slice a T.kids.length c) ∧ -1 ≤ nx ∧ nx ≤ s.size
def WParse (s : ByteArray) (d : Nat) : Prop := ∀ (a : Int) (w : World), 0 ≤ a → a ≤ s.size → Calls Tryz.prog 129 #[.string s, .int .i64 a, .int .i64 d] w (PW s w)
set_option maxRecDepth 100000 in
set_option maxHeartbeats 8000000 in
theorem prefixW (s : ByteArray) (hs : s.size ≤ 1152921504606846976) (d : Nat) (hd : d ≤ 100) (hrec : WParse s d) (a : Nat) (ha : a < s.size) (w : World) :
  Calls Tryz.prog 140 #[.string s, .int .i64 a, .int .i64 ((d + 1 : Nat) : Int)] w (PW s w) := by
 have HREC : Hid (∀ W, Calls Tryz.prog 129 #[.string s, .int .i64 ((a : Int) + 1), .int .i64 d] W (PW s W)) := tuck fun W => hrec _ W (by omega) (by omega)
 have hai : (a : Int) < (s.size : Int) := by omega
 have hds : (d : Int) + 1 - 1 = (d : Int) := by omega
 have HP : Hid (∀ (T : Tm) (nx : Int) (w' : World) (a' : Option Addr) (c' : Nat), Below w.heap.size w w' → SlIn w' w.heap.size T.kids (.slice a' T.kids.length c') → -1 ≤ nx ∧ nx ≤ s.size → PW s w (.returned (.tuple #[.agg #[.int .i64 T.kind, .int .i64 T.num, .slice a' T.kids.length c'], .int .i64 nx])) w') := tuck fun T nx w' a' c' hb hs' hm => ⟨hb, T, a', c', nx, rfl, hs', hm⟩
 generalize PW s w = post at *
 have HB1 := tuck (below1 w (.cells #[.int .i64 0, .int .i64 0, .slice none 0 0] 34))
 have HV1 := tuck (VarAt.new w 0 0 (.slice none 0 0))
 clear hrec
 go_enter Tryz.func140, Tryz.ntmps140
 go_wp2_with fail
 all_goals
  generalize w.alloc (.cells #[.int .i64 0, .int .i64 0, .slice none 0 0] 34) = W1 at *
  refine (HREC.out _).mono ?_
  rintro e w3 ⟨hb3, T, ta, tc, nx, rfl, hs3, hm⟩
  have hbx := below1 w3 (.cells #[.int .i64 T.kind, .int .i64 T.num, .slice ta T.kids.length tc] 34)
  have HV3 := tuck ((HV1.out.below hb3).below hbx)
  have HVT := tuck (VarAt.new w3 T.kind T.num (.slice ta T.kids.length tc))
  have HB3 := tuck (bAfter HB1.out (bAfter hb3 hbx))
  have HZ1 : Hid (w.heap.size + 1 ≤ W1.heap.size) := tuck HV1.out.facts.1
  have HS3 := tuck (hs3.below hbx)
  have HM := tuck hm
  obtain ⟨z1, r0, r1, r2, rf⟩ := HV3.out.facts
  clear hb3 hs3 hbx hm
  have hby := below1 (w3.alloc (.cells #[.int .i64 T.kind, .int .i64 T.num, .slice ta T.kids.length tc] 34)) (.cells #[.int .i64 T.kind, .int .i64 T.num, .slice ta T.kids.length tc] 34)
  have HV4 := tuck (HV3.out.below hby)
  have HB4 := tuck (bAfter HB3.out hby)
  have hz1 : w.heap.size + 1 ≤ W1.heap.size := HZ1.out
  have hx3 : SlX ((w3.alloc (.cells #[.int .i64 T.kind, .int .i64 T.num, .slice ta T.kids.length tc] 34)).alloc (.cells #[.int .i64 T.kind, .int .i64 T.num, .slice ta T.kids.length tc] 34)) (fun i => i < w.heap.size + 1) T.kids (.slice ta T.kids.length tc) := SlX.of_sl (HS3.out.below hby) (fun i hi => by omega)
  have HNODE : Hid (∀ K : Int, Calls Tryz.prog 86 #[.int .i64 K, .slice (some ⟨w3.heap.size + 1, 0, none⟩) 1 1] ((w3.alloc (.cells #[.int .i64 T.kind, .int .i64 T.num, .slice ta T.kids.length tc] 34)).alloc (.cells #[.int .i64 T.kind, .int .i64 T.num, .slice ta T.kids.length tc] 34)) fun e w' => Below ((w3.alloc (.cells #[.int .i64 T.kind, .int .i64 T.num, .slice ta T.kids.length tc] 34)).alloc (.cells #[.int .i64 T.kind, .int .i64 T.num, .slice ta T.kids.length tc] 34)).heap.size ((w3.alloc (.cells #[.int .i64 T.kind, .int .i64 T.num, .slice ta T.kids.length tc] 34)).alloc (.cells #[.int .i64 T.kind, .int .i64 T.num, .slice ta T.kids.length tc] 34)) w' ∧ ∃ (a : Option Addr) (c : Nat), e = .returned (.agg #[.int .i64 K, .int .i64 0, .slice a 1 c]) ∧ SlX w' (fun i => i < w.heap.size + 1) [T] (.slice a 1 c)) := tuck fun K => by
   have h := nodeX_any K [(T, .slice ta T.kids.length tc)] ((w3.alloc (.cells #[.int .i64 T.kind, .int .i64 T.num, .slice ta T.kids.length tc] 34)).alloc (.cells #[.int .i64 T.kind, .int .i64 T.num, .slice ta T.kids.length tc] 34)) (w3.alloc (.cells #[.int .i64 T.kind, .int .i64 T.num, .slice ta T.kids.length tc] 34)).heap.size 1 34 #[.int .i64 T.kind, .int .i64 T.num, .slice ta T.kids.length tc] (fun i => i < w.heap.size + 1) (fun i hi => by have h1 := HB4.out.size; have h2 := HV4.out.facts.1; omega) (by simp) (by simp) (heap_new _ _) (by simp [cellsL]) (fun x hx => by simp only [List.mem_singleton] at hx; subst hx; exact hx3)
   rw [show (w3.alloc (.cells #[.int .i64 T.kind, .int .i64 T.num, .slice ta T.kids.length tc] 34)).heap.size = w3.heap.size + 1 by simp] at h
   exact h
  obtain ⟨y0, b0, b1, b2, -⟩ := HVT.out.facts
  clear hby hx3 hz1 z1 r0 r1 r2 rf
  go_wp2_with fail
  refine (HNODE.out _).mono ?_
  rintro e w6 ⟨hb6, xa, xc, rfl, hs6⟩
  obtain ⟨z1, r0, r1, r2, rf⟩ := (HV4.out.below hb6).facts
  have HB6 := tuck (bAfter HB4.out hb6)
  have HS6 := tuck (SlX.from hs6)
  clear hb6 hs6 HNODE
  go_wp2_with fail
  first
  | (refine bodyPost_ret (v := .tuple #[.agg #[.int .i64 11, .int .i64 0, .slice xa 1 xc], .int .i64 nx]) ?_ rfl (HP.out (.mk 11 0 [T]) nx _ xa xc (bSet3 HB6.out (Nat.le_refl _) _ _ _ _ _ _) ((SlIn.set3 HS6.out (Nat.lt_succ_self _)).mono (Nat.le_succ _)) HM.out); simp [results, Tryz.results140, go_sem, *]; done)
  | (refine bodyPost_ret (v := .tuple #[.agg #[.int .i64 15, .int .i64 0, .slice xa 1 xc], .int .i64 nx]) ?_ rfl (HP.out (.mk 15 0 [T]) nx _ xa xc (bSet3 HB6.out (Nat.le_refl _) _ _ _ _ _ _) ((SlIn.set3 HS6.out (Nat.lt_succ_self _)).mono (Nat.le_succ _)) HM.out); simp [results, Tryz.results140, go_sem, *]; done)
  | (refine bodyPost_ret (v := .tuple #[.agg #[.int .i64 16, .int .i64 0, .slice xa 1 xc], .int .i64 nx]) ?_ rfl (HP.out (.mk 16 0 [T]) nx _ xa xc (bSet3 HB6.out (Nat.le_refl _) _ _ _ _ _ _) ((SlIn.set3 HS6.out (Nat.lt_succ_self _)).mono (Nat.le_succ _)) HM.out); simp [results, Tryz.results140, go_sem, *]; done)
  | (refine bodyPost_ret (v := .tuple #[.agg #[.int .i64 8, .int .i64 0, .slice xa 1 xc], .int .i64 nx]) ?_ rfl (HP.out (.mk 8 0 [T]) nx _ xa xc (bSet3 HB6.out (Nat.le_refl _) _ _ _ _ _ _) ((SlIn.set3 HS6.out (Nat.lt_succ_self _)).mono (Nat.le_succ _)) HM.out); simp [results, Tryz.results140, go_sem, *]; done)
set_option maxRecDepth 100000 in
set_option maxHeartbeats 8000000 in
theorem roundW (s : ByteArray) (hs : s.size ≤ 1152921504606846976) (d : Nat) (hrec : WParse s d) (a : Int) (ha0 : 0 ≤ a) (ha : a ≤ s.size) (w : World) :
  Calls Tryz.prog 141 #[.string s, .int .i64 a, .int .i64 d] w (PW s w) := by
 have HR1 : Hid (∀ W, Calls Tryz.prog 129 #[.string s, .int .i64 a, .int .i64 d] W (PW s W)) := tuck fun W => hrec a W ha0 ha
 have HR2 : Hid (∀ (n : Nat) W, n < s.size → Calls Tryz.prog 129 #[.string s, .int .i64 ((n : Int) + 1), .int .i64 d] W (PW s W)) := tuck fun n W h => hrec _ W (by omega) (by omega)
 have HP : Hid (∀ (T : Tm) (nx : Int) (w' : World) (a' : Option Addr) (c' : Nat), Below w.heap.size w w' → SlIn w' w.heap.size T.kids (.slice a' T.kids.length c') → -1 ≤ nx ∧ nx ≤ s.size → PW s w (.returned (.tuple #[.agg #[.int .i64 T.kind, .int .i64 T.num, .slice a' T.kids.length c'], .int .i64 nx])) w') := tuck fun T nx w' a' c' hb hs' hm => ⟨hb, T, a', c', nx, rfl, hs', hm⟩
 generalize PW s w = post at *
 have HB1 := tuck (below1 w (.cells #[.int .i64 0, .int .i64 0, .slice none 0 0] 34))
 have HV1 := tuck (VarAt.new w 0 0 (.slice none 0 0))
 clear hrec ha0 ha
 go_enter Tryz.func141, Tryz.ntmps141
 go_wp2_with fail
 generalize w.alloc (.cells #[.int .i64 0, .int .i64 0, .slice none 0 0] 34) = W1 at *
 refine (HR1.out _).mono ?_
 rintro e w3 ⟨hb3, T, ta, tc, nx, rfl, hs3, hm⟩
 have hbx := below1 w3 (.cells #[.int .i64 T.kind, .int .i64 T.num, .slice ta T.kids.length tc] 34)
 have HV3 := tuck ((HV1.out.below hb3).below hbx)
 have HVT := tuck (VarAt.new w3 T.kind T.num (.slice ta T.kids.length tc))
 have HB3 := tuck (bAfter HB1.out (bAfter hb3 hbx))
 have HZ1 : Hid (w.heap.size + 1 ≤ W1.heap.size) := tuck HV1.out.facts.1
 have HS3 := tuck (hs3.below hbx)
 have HM := tuck hm
 obtain ⟨z1, r0, r1, r2, rf⟩ := HV3.out.facts
 clear hb3 hs3 hbx hm
 by_cases h0 : nx < 0
 ·have kn : decide (nx < 0) = true := decide_eq_true h0
  go_wp2_with fail
  refine bodyPost_ret (v := .tuple #[.agg #[.int .i64 0, .int .i64 0, .slice none 0 0], .int .i64 (-1)]) ?_ rfl (HP.out zeroT (-1) _ none 0 ?_ (SlIn.nil _ _ _ _) (by omega))
  (focus (simp [results, Tryz.results141, go_sem, *]; done))
  first | exact bSet3 HB3.out (Nat.le_refl _) _ _ _ _ _ _ | exact HB3.out
 by_cases h1 : (s.size : Int) ≤ nx
 ·have kn : decide (nx < 0) = false := decide_eq_false h0
  have kg : decide ((s.size : Int) ≤ nx) = true := decide_eq_true h1
  go_wp2_with fail
  refine bodyPost_ret (v := .tuple #[.agg #[.int .i64 0, .int .i64 0, .slice none 0 0], .int .i64 (-1)]) ?_ rfl (HP.out zeroT (-1) _ none 0 ?_ (SlIn.nil _ _ _ _) (by omega))
  (focus (simp [results, Tryz.results141, go_sem, *]; done))
  first | exact bSet3 HB3.out (Nat.le_refl _) _ _ _ _ _ _ | exact HB3.out
 obtain ⟨n, rfl⟩ : ∃ n : Nat, nx = n := ⟨nx.toNat, by omega⟩
 have hl : n < s.size := by omega
 have kn : decide ((n : Int) < 0) = false := decide_eq_false (by omega)
 have kg : decide ((s.size : Int) ≤ (n : Int)) = false := decide_eq_false (by omega)
 have ki : (n : Int) < (s.size : Int) := by omega
 clear h0 h1
 go_wp2_with fail
 all_goals
  refine (HR2.out n _ hl).mono ?_
  rintro e w5 ⟨hb5, U, ua, uc, ny, rfl, hs5, hm2⟩
  have HZ3 : Hid (w.heap.size + 1 ≤ (w3.alloc (.cells #[.int .i64 T.kind, .int .i64 T.num, .slice ta T.kids.length tc] 34)).heap.size) := tuck z1
  have hby := below1 w5 (.cells #[.int .i64 U.kind, .int .i64 U.num, .slice ua U.kids.length uc] 34)
  have HV5 := tuck ((HV3.out.below hb5).below hby)
  have HVT5 := tuck ((HVT.out.below hb5).below hby)
  have HVU5 := tuck (VarAt.new w5 U.kind U.num (.slice ua U.kids.length uc))
  have HB5 := tuck (bAfter HB3.out (bAfter hb5 hby))
  have HST := tuck ((HS3.out.below hb5).below hby)
  have HSU := tuck (hs5.below hby)
  have HM2 := tuck hm2
  clear z1 r0 r1 r2 rf
  obtain ⟨z1, r0, r1, r2, rf⟩ := HV5.out.facts
  have hbr := below1 (w5.alloc (.cells #[.int .i64 U.kind, .int .i64 U.num, .slice ua U.kids.length uc] 34)) (.cells #[.int .i64 T.kind, .int .i64 T.num, .slice ta T.kids.length tc, .int .i64 U.kind, .int .i64 U.num, .slice ua U.kids.length uc] 34)
  have HV6 := tuck (HV5.out.below hbr)
  have HB6 := tuck (bAfter HB5.out hbr)
  have hzt : w.heap.size + 1 ≤ W1.heap.size := HZ1.out
  have hzu := HZ3.out
  have HNODE : Hid (∀ K : Int, Calls Tryz.prog 86 #[.int .i64 K, .slice (some ⟨w5.heap.size + 1, 0, none⟩) 2 2] ((w5.alloc (.cells #[.int .i64 U.kind, .int .i64 U.num, .slice ua U.kids.length uc] 34)).alloc (.cells #[.int .i64 T.kind, .int .i64 T.num, .slice ta T.kids.length tc, .int .i64 U.kind, .int .i64 U.num, .slice ua U.kids.length uc] 34)) fun e w' => Below ((w5.alloc (.cells #[.int .i64 U.kind, .int .i64 U.num, .slice ua U.kids.length uc] 34)).alloc (.cells #[.int .i64 T.kind, .int .i64 T.num, .slice ta T.kids.length tc, .int .i64 U.kind, .int .i64 U.num, .slice ua U.kids.length uc] 34)).heap.size ((w5.alloc (.cells #[.int .i64 U.kind, .int .i64 U.num, .slice ua U.kids.length uc] 34)).alloc (.cells #[.int .i64 T.kind, .int .i64 T.num, .slice ta T.kids.length tc, .int .i64 U.kind, .int .i64 U.num, .slice ua U.kids.length uc] 34)) w' ∧ ∃ (a : Option Addr) (c : Nat), e = .returned (.agg #[.int .i64 K, .int .i64 0, .slice a 2 c]) ∧ SlX w' (fun i => i < w.heap.size + 1) [T, U] (.slice a 2 c)) := tuck fun K => by
   have h := nodeX_any K [(T, .slice ta T.kids.length tc), (U, .slice ua U.kids.length uc)] ((w5.alloc (.cells #[.int .i64 U.kind, .int .i64 U.num, .slice ua U.kids.length uc] 34)).alloc (.cells #[.int .i64 T.kind, .int .i64 T.num, .slice ta T.kids.length tc, .int .i64 U.kind, .int .i64 U.num, .slice ua U.kids.length uc] 34)) (w5.alloc (.cells #[.int .i64 U.kind, .int .i64 U.num, .slice ua U.kids.length uc] 34)).heap.size 2 34 #[.int .i64 T.kind, .int .i64 T.num, .slice ta T.kids.length tc, .int .i64 U.kind, .int .i64 U.num, .slice ua U.kids.length uc] (fun i => i < w.heap.size + 1) (fun i hi => by have h1 := HB6.out.size; have h2 := HV6.out.facts.1; omega) (by simp) (by simp) (heap_new _ _) (by simp [cellsL]) (fun x hx => by
    simp only [List.mem_cons, List.not_mem_nil, or_false] at hx
    rcases hx with rfl | rfl
    ·exact SlX.of_sl (HST.out.below hbr) (fun i hi => by omega)
    ·exact SlX.of_sl (HSU.out.below hbr) (fun i hi => by omega))
   rw [show (w5.alloc (.cells #[.int .i64 U.kind, .int .i64 U.num, .slice ua U.kids.length uc] 34)).heap.size = w5.heap.size + 1 by simp] at h
   exact h
  obtain ⟨zt, t0, t1, t2, -⟩ := HVT5.out.facts
  obtain ⟨zu, u0, u1, u2, -⟩ := HVU5.out.facts
  clear hbr hzt hzu hb5 hby hs5 hm2
  by_cases h0b : ny < 0
  ·have knb : decide (ny < 0) = true := decide_eq_true h0b
   go_wp2_with fail
   all_goals (refine bodyPost_ret (v := .tuple #[.agg #[.int .i64 0, .int .i64 0, .slice none 0 0], .int .i64 (-1)]) ?_ rfl (HP.out zeroT (-1) _ none 0 ?_ (SlIn.nil _ _ _ _) (by omega)); (focus (simp [results, Tryz.results141, go_sem, *]; done)); first | exact bSet3 HB5.out (Nat.le_refl _) _ _ _ _ _ _ | exact HB5.out)
  by_cases h1b : (s.size : Int) ≤ ny
  ·have knb : decide (ny < 0) = false := decide_eq_false h0b
   have kgb : decide ((s.size : Int) ≤ ny) = true := decide_eq_true h1b
   go_wp2_with fail
   all_goals (refine bodyPost_ret (v := .tuple #[.agg #[.int .i64 0, .int .i64 0, .slice none 0 0], .int .i64 (-1)]) ?_ rfl (HP.out zeroT (-1) _ none 0 ?_ (SlIn.nil _ _ _ _) (by omega)); (focus (simp [results, Tryz.results141, go_sem, *]; done)); first | exact bSet3 HB5.out (Nat.le_refl _) _ _ _ _ _ _ | exact HB5.out)
  obtain ⟨m, rfl⟩ : ∃ m : Nat, ny = m := ⟨ny.toNat, by omega⟩
  have hlb : m < s.size := by omega
  have knb : decide ((m : Int) < 0) = false := decide_eq_false (by omega)
  have kgb : decide ((s.size : Int) ≤ (m : Int)) = false := decide_eq_false (by omega)
  have kib : (m : Int) < (s.size : Int) := by omega
  clear h0b h1b
  go_wp2_with fail
  all_goals first
  | (refine bodyPost_ret (v := .tuple #[.agg #[.int .i64 0, .int .i64 0, .slice none 0 0], .int .i64 (-1)]) ?_ rfl (HP.out zeroT (-1) _ none 0 ?_ (SlIn.nil _ _ _ _) (by omega)); (focus (simp [results, Tryz.results141, go_sem, *]; done)); first | exact bSet3 HB5.out (Nat.le_refl _) _ _ _ _ _ _ | exact HB5.out)
  | (
   refine (HNODE.out _).mono ?_
   rintro e w7 ⟨hb7, xa, xc, rfl, hs7⟩
   clear z1 r0 r1 r2 rf
   obtain ⟨z1, r0, r1, r2, rf⟩ := (HV6.out.below hb7).facts
   have HB7 := tuck (bAfter HB6.out hb7)
   have HS7 := tuck (SlX.from hs7)
   clear hb7 hs7 HNODE
   go_wp2_with fail
   first
   | (refine bodyPost_ret (v := .tuple #[.agg #[.int .i64 3, .int .i64 0, .slice xa 2 xc], .int .i64 ((m : Int) + 1)]) ?_ rfl (HP.out (.mk 3 0 [T, U]) ((m : Int) + 1) _ xa xc (bSet3 HB7.out (Nat.le_refl _) _ _ _ _ _ _) ((SlIn.set3 HS7.out (Nat.lt_succ_self _)).mono (Nat.le_succ _)) (by omega)); simp [results, Tryz.results141, go_sem, *]; done)
   | (refine bodyPost_ret (v := .tuple #[.agg #[.int .i64 13, .int .i64 0, .slice xa 2 xc], .int .i64 ((m : Int) + 1)]) ?_ rfl (HP.out (.mk 13 0 [T, U]) ((m : Int) + 1) _ xa xc (bSet3 HB7.out (Nat.le_refl _) _ _ _ _ _ _) ((SlIn.set3 HS7.out (Nat.lt_succ_self _)).mono (Nat.le_succ _)) (by omega)); simp [results, Tryz.results141, go_sem, *]; done)
   | (refine bodyPost_ret (v := .tuple #[.agg #[.int .i64 5, .int .i64 0, .slice xa 2 xc], .int .i64 ((m : Int) + 1)]) ?_ rfl (HP.out (.mk 5 0 [T, U]) ((m : Int) + 1) _ xa xc (bSet3 HB7.out (Nat.le_refl _) _ _ _ _ _ _) ((SlIn.set3 HS7.out (Nat.lt_succ_self _)).mono (Nat.le_succ _)) (by omega)); simp [results, Tryz.results141, go_sem, *]; done)
   )
end Go.Proofs.YtpddjebdncaceaaGreat
namespace Go.Proofs.YtpddjebdncaceaaGreat
open Go.RowKit
def SW (s : ByteArray) (w : World) (e : Ending) (w' : World) : Prop :=
 Below w.heap.size w w' ∧ ∃ (l : List Tm) (a : Option Addr) (c : Nat) (nx : Int), e = .returned (.tuple #[.slice a l.length c, .int .i64 nx]) ∧ SlIn w' w.heap.size l (.slice a l.length c) ∧ -1 ≤ nx ∧ nx ≤ s.size
set_option maxRecDepth 100000 in
set_option maxHeartbeats 8000000 in
theorem seriesW (s : ByteArray) (hs : s.size ≤ 1152921504606846976) (d : Nat) (hrec : WParse s d) (last : Int) (many : Nat) (hm4 : many ≤ 4) (a : Nat) (ha : a ≤ s.size) (w : World) :
  Calls Tryz.prog 147 #[.string s, .int .i64 a, .int .i64 d, .int .i64 many, .int .u8 last] w (SW s w) := by
 have HREC : Hid (∀ (A : Nat) W, A ≤ s.size → Calls Tryz.prog 129 #[.string s, .int .i64 A, .int .i64 d] W (PW s W)) := tuck fun A W h => hrec A W (by omega) (by omega)
 have HNO : Hid (∀ w', Below w.heap.size w w' → SW s w (.returned (.tuple #[.slice none 0 0, .int .i64 (-1)])) w') := tuck fun w' hb => ⟨hb, [], none, 0, -1, rfl, SlIn.nil _ _ _ _, by omega⟩
 have HYES : Hid (∀ (l : List Tm) (A : Nat) (w' : World) (av : Option Addr) (c : Nat), A ≤ s.size → Below w.heap.size w w' → SlIn w' w.heap.size l (.slice av l.length c) → SW s w (.returned (.tuple #[.slice av l.length c, .int .i64 A])) w') := tuck fun l A w' av c hA hb hs' => ⟨hb, l, av, c, A, rfl, hs', by omega⟩
 generalize SW s w = post at *
 clear hrec
 go_enter Tryz.func147, Tryz.ntmps147
 go_wp2_with fail
 have HB0 := tuck (below1 w (.cells #[] 34))
 have HROW0 : Hid (RowY (fun i => i < w.heap.size) w.heap.size [] (.slice (some ⟨w.heap.size, 0, none⟩) 0 0) (w.alloc (.cells #[] 34))) := tuck ⟨[], rfl, World.ownsRow_lit w #[] 0 (Nat.le_refl _) (by simp [maxLen]) (by simp), fun x h => (by cases h)⟩
 generalize w.alloc (.cells #[] 34) = W0 at *
 go_loopw [1, 12, 13] (fun at_ out i wr => ∃ (q A : Nat) (pre : List Tm), q ≤ many ∧ pre.length = q ∧ i = .int .i64 q ∧ at_ = .int .i64 A ∧ A ≤ s.size ∧ Below w.heap.size w wr ∧ RowY (fun i => i < w.heap.size) w.heap.size pre out wr) (fun _ _ i _ => many - (intOf i).toNat)
 case atStart => exact ⟨0, a, [], Nat.zero_le _, rfl, rfl, rfl, ha, HB0.out, HROW0.out⟩
 case round =>
  obtain ⟨q, A, pre, hq, hpre, rfl, rfl, hA, hb, hrow⟩ := hrel
  have HB := tuck hb
  have HROW := tuck hrow
  have HPRE := tuck hpre
  obtain ⟨va, vc, rfl⟩ := HROW.out.form' hpre
  have HSZ : Hid (w.heap.size ≤ wr.heap.size) := tuck HB.out.size
  clear hb hrow hpre HB0 HROW0
  by_cases hlt : q < many
  ·have hlti : decide ((q : Int) < (many : Int)) = true := decide_eq_true (by omega)
   go_wp2_with fail
   refine (HREC.out A _ hA).mono ?_
   rintro e w3 ⟨hb3, T, ta, tc, nx, rfl, hs3, hm⟩
   have hbx := below1 w3 (.cells #[.int .i64 T.kind, .int .i64 T.num, .slice ta T.kids.length tc] 34)
   have HB3 := tuck (bAfter HB.out (bAfter hb3 hbx))
   have HVT := tuck (VarAt.new w3 T.kind T.num (.slice ta T.kids.length tc))
   have HS3 := tuck (hs3.below hbx)
   have HBX := tuck (bAfter hb3 hbx)
   clear hb3 hs3 hbx
   by_cases h0 : nx < 0
   ·have kn : decide (nx < 0) = true := decide_eq_true h0
    go_wp2_with fail
    exact HNO.out _ HB3.out
   by_cases h1 : (s.size : Int) ≤ nx
   ·have kn : decide (nx < 0) = false := decide_eq_false h0
    have kg : decide ((s.size : Int) ≤ nx) = true := decide_eq_true h1
    go_wp2_with fail
    exact HNO.out _ HB3.out
   obtain ⟨n, rfl⟩ : ∃ n : Nat, nx = n := ⟨nx.toNat, by omega⟩
   have hl : n < s.size := by omega
   have kn : decide ((n : Int) < 0) = false := decide_eq_false (by omega)
   have kg : decide ((s.size : Int) ≤ (n : Int)) = false := decide_eq_false (by omega)
   have ki : (n : Int) < (s.size : Int) := by omega
   clear h0 h1
   by_cases hq1 : q + 1 < many
   ·have k1 : decide ((q : Int) + 1 < (many : Int)) = true := decide_eq_true (by omega)
    have k2 : ((q : Int) + 1 == (many : Int)) = false := by rw [beq_eq_false_iff_ne]; omega
    by_cases hc : (s[n].toNat : Int) = 44
    ·have k3 : ((s[n].toNat : Int) != 44) = false := by rw [bne_eq_false_iff_eq]; exact hc
     obtain ⟨zv, v0, v1, v2, vf⟩ := HVT.out.facts
     have hq4 : q + 1 ≤ maxLen := by unfold maxLen; omega
     have hqb : (q + 1) * 40 ≤ 140737488355328 := by omega
     obtain ⟨i0, hi0, hz0, hz1, hz2⟩ := info_parts info_termG
     have HI0 := tuck hi0
     have HI1 := tuck hz0
     have HI2 := tuck hz1
     have HI3 := tuck hz2
     have hbk := below1 (w3.alloc (.cells #[.int .i64 T.kind, .int .i64 T.num, .slice ta T.kids.length tc] 34)) (.cells #[.int .i64 T.kind, .int .i64 T.num, .slice ta T.kids.length tc] 34)
     have HROW4 := tuck ((HROW.out.below HBX.out).below hbk)
     have HBK := tuck (bAfter HB3.out hbk)
     have HS4 := tuck (HS3.out.below hbk)
     obtain ⟨xs, hox, hpush⟩ := HROW4.out.grow HPRE.out
     have HOX := tuck hox
     have HPUSH := tuck hpush
     have HLT := tuck HROW.out.lt
     clear hox hpush hbk hi0 hz0 hz1 hz2
     go_wp2_with (at_builtin; refine wpList_append_lies _ rfl _ _ _ rfl w.heap.size 34 i0 _ 3 40 Tryz.underlying32 HI0.out HI1.out HI2.out HI3.out rfl (by omega) _ _ _ rfl HOX.out ⟨w3.heap.size + 1, 0, none⟩ 1 1 [.int .i64 T.kind, .int .i64 T.num, .slice ta T.kids.length tc] rfl rfl ?news ?one (by omega) hq4 hqb ?base (w3.heap.size + 1 + 1) ?size ?next)
     case news =>
      have h := World.news_of_block (w := (w3.alloc (.cells #[.int .i64 T.kind, .int .i64 T.num, .slice ta T.kids.length tc] 34)).alloc (.cells #[.int .i64 T.kind, .int .i64 T.num, .slice ta T.kids.length tc] 34)) (cs := #[.int .i64 T.kind, .int .i64 T.num, .slice ta T.kids.length tc]) (t := 34) (fr := (0, 0)) (heap_new (w3.alloc (.cells #[.int .i64 T.kind, .int .i64 T.num, .slice ta T.kids.length tc] 34)) _)
      simpa using h
     case one => simp [Value.oneCell']
     case base => have := HB3.out.size; simp at this ⊢; omega
     case size => simp
     case next =>
      intro gg gcap w4 hown4 hgrow hat hlt4
      have HGR := tuck hgrow
      have HOWN := tuck hown4
      have HAT := tuck hat
      clear hgrow hown4 hat
      go_wp2_with fail
      go_roundw
      case rel =>
       refine ⟨q + 1, n + 1, pre ++ [T], by omega, by rw [List.length_append, HPRE.out]; rfl, by go_num, by go_num, by omega, ?_, ?_⟩
       ·exact HBK.out.grown HGR.out HBK.out.size (fun g hg => (HLT.out g hg).1)
       ·refine HPUSH.out _ _ w4 T (SlX.of_sl (B := wr.heap.size) HS4.out (fun j hj => ?_)) HOWN.out HGR.out (HAT.out.imp (fun h => h.symm) (fun h => by rw [h]; simp [Value.ownBlock]))
        have hsz := HSZ.out
        rcases hj with h | h
        ·omega
        ·exact (HLT.out j h).2
      case measure => simp [intOf]; omega
    ·have k3 : ((s[n].toNat : Int) != 44) = true := by rw [bne_iff_ne]; exact hc
     go_wp2_with fail
     exact HNO.out _ HB3.out
   ·have k1 : decide ((q : Int) + 1 < (many : Int)) = false := decide_eq_false (by omega)
    have k2 : ((q : Int) + 1 == (many : Int)) = true := by rw [beq_iff_eq]; omega
    by_cases hc : (s[n].toNat : Int) = last
    ·have k3 : ((s[n].toNat : Int) != last) = false := by rw [bne_eq_false_iff_eq]; exact hc
     obtain ⟨zv, v0, v1, v2, vf⟩ := HVT.out.facts
     have hq4 : q + 1 ≤ maxLen := by unfold maxLen; omega
     have hqb : (q + 1) * 40 ≤ 140737488355328 := by omega
     obtain ⟨i0, hi0, hz0, hz1, hz2⟩ := info_parts info_termG
     have HI0 := tuck hi0
     have HI1 := tuck hz0
     have HI2 := tuck hz1
     have HI3 := tuck hz2
     have hbk := below1 (w3.alloc (.cells #[.int .i64 T.kind, .int .i64 T.num, .slice ta T.kids.length tc] 34)) (.cells #[.int .i64 T.kind, .int .i64 T.num, .slice ta T.kids.length tc] 34)
     have HROW4 := tuck ((HROW.out.below HBX.out).below hbk)
     have HBK := tuck (bAfter HB3.out hbk)
     have HS4 := tuck (HS3.out.below hbk)
     obtain ⟨xs, hox, hpush⟩ := HROW4.out.grow HPRE.out
     have HOX := tuck hox
     have HPUSH := tuck hpush
     have HLT := tuck HROW.out.lt
     clear hox hpush hbk hi0 hz0 hz1 hz2
     go_wp2_with (at_builtin; refine wpList_append_lies _ rfl _ _ _ rfl w.heap.size 34 i0 _ 3 40 Tryz.underlying32 HI0.out HI1.out HI2.out HI3.out rfl (by omega) _ _ _ rfl HOX.out ⟨w3.heap.size + 1, 0, none⟩ 1 1 [.int .i64 T.kind, .int .i64 T.num, .slice ta T.kids.length tc] rfl rfl ?news ?one (by omega) hq4 hqb ?base (w3.heap.size + 1 + 1) ?size ?next)
     case news =>
      have h := World.news_of_block (w := (w3.alloc (.cells #[.int .i64 T.kind, .int .i64 T.num, .slice ta T.kids.length tc] 34)).alloc (.cells #[.int .i64 T.kind, .int .i64 T.num, .slice ta T.kids.length tc] 34)) (cs := #[.int .i64 T.kind, .int .i64 T.num, .slice ta T.kids.length tc]) (t := 34) (fr := (0, 0)) (heap_new (w3.alloc (.cells #[.int .i64 T.kind, .int .i64 T.num, .slice ta T.kids.length tc] 34)) _)
      simpa using h
     case one => simp [Value.oneCell']
     case base => have := HB3.out.size; simp at this ⊢; omega
     case size => simp
     case next =>
      intro gg gcap w4 hown4 hgrow hat hlt4
      have HGR := tuck hgrow
      have HOWN := tuck hown4
      have HAT := tuck hat
      clear hgrow hown4 hat
      go_wp2_with fail
      go_roundw
      case rel =>
       refine ⟨q + 1, n + 1, pre ++ [T], by omega, by rw [List.length_append, HPRE.out]; rfl, by go_num, by go_num, by omega, ?_, ?_⟩
       ·exact HBK.out.grown HGR.out HBK.out.size (fun g hg => (HLT.out g hg).1)
       ·refine HPUSH.out _ _ w4 T (SlX.of_sl (B := wr.heap.size) HS4.out (fun j hj => ?_)) HOWN.out HGR.out (HAT.out.imp (fun h => h.symm) (fun h => by rw [h]; simp [Value.ownBlock]))
        have hsz := HSZ.out
        rcases hj with h | h
        ·omega
        ·exact (HLT.out j h).2
      case measure => simp [intOf]; omega
    ·have k3 : ((s[n].toNat : Int) != last) = true := by rw [bne_iff_ne]; exact hc
     go_wp2_with fail
     exact HNO.out _ HB3.out
  ·have hlti : decide ((q : Int) < (many : Int)) = false := decide_eq_false (by omega)
   have hsl : SlX wr (fun i => i < w.heap.size) pre (.slice va pre.length vc) := by
    rw [HPRE.out]
    exact HROW.out.done (by rw [HPRE.out]; unfold maxLen; omega) (fun j hj => hj)
   have HEND := tuck (HYES.out pre A wr va vc hA HB.out hsl.from)
   rw [HPRE.out] at HEND
   clear hsl HYES HNO
   go_wp2_with fail
   exact HEND.out
end Go.Proofs.YtpddjebdncaceaaGreat
namespace Go.Proofs.YtpddjebdncaceaaGreat
open Go.RowKit
set_option maxRecDepth 100000 in
set_option maxHeartbeats 8000000 in
theorem blockW (s : ByteArray) (hs : s.size ≤ 1152921504606846976) (d : Nat) (hd : d ≤ 100) (hrec : WParse s d) (a : Nat) (ha : a < s.size) (w : World) :
  Calls Tryz.prog 142 #[.string s, .int .i64 a, .int .i64 ((d + 1 : Nat) : Int)] w (PW s w) := by
 have HP : Hid (∀ (T : Tm) (nx : Int) (w' : World) (a' : Option Addr) (c' : Nat), Below w.heap.size w w' → SlIn w' w.heap.size T.kids (.slice a' T.kids.length c') → -1 ≤ nx ∧ nx ≤ s.size → PW s w (.returned (.tuple #[.agg #[.int .i64 T.kind, .int .i64 T.num, .slice a' T.kids.length c'], .int .i64 nx])) w') := tuck fun T nx w' a' c' hb hs' hm => ⟨hb, T, a', c', nx, rfl, hs', hm⟩
 generalize PW s w = post at *
 have HB1 := tuck (below1 w (.cells #[.int .i64 0, .int .i64 0, .slice none 0 0] 34))
 have HV1 := tuck (VarAt.new w 0 0 (.slice none 0 0))
 have hai : (a : Int) < (s.size : Int) := by omega
 have hds : (d : Int) + 1 - 1 = (d : Int) := by omega
 have HK : Hid (∀ (K : Int) (W : World), K = 9 ∨ K = 10 ∨ K = 12 ∨ K = 14 → Calls Tryz.prog 101 #[.int .i64 K] W fun e w' => ∃ m : Nat, m ≤ 4 ∧ e = .returned (.int .i64 m) ∧ W = w') := tuck fun K W h => by
  rcases h with rfl | rfl | rfl | rfl
  all_goals
   refine (kids_any _ W).mono ?_
   rintro e w' ⟨rfl, rfl⟩
   first
   | exact ⟨4, by decide, rfl, rfl⟩
   | exact ⟨3, by decide, rfl, rfl⟩
 have HS : Hid (∀ (st : Int) (m : Nat) (last : Int) W, (0 : Int) ≤ st → st ≤ (s.size : Int) → m ≤ 4 → Calls Tryz.prog 147 #[.string s, .int .i64 st, .int .i64 d, .int .i64 m, .int .u8 last] W (SW s W)) := tuck fun st m last W h0 h1 hm4 => by
  obtain ⟨b, rfl⟩ : ∃ b : Nat, st = b := ⟨st.toNat, by omega⟩
  exact seriesW s hs d hrec last m hm4 b (by omega) W
 clear hrec
 by_cases h2 : a + 1 < s.size
 ·have k0 : decide ((s.size : Int) < (a : Int) + 2) = false := decide_eq_false (by omega)
  have k0' : (a : Int) + 1 < (s.size : Int) := by omega
  have k0'' : (0 : Int) ≤ (a : Int) + 1 := by omega
  go_enter Tryz.func142, Tryz.ntmps142
  go_wp2_with fail
  all_goals first
  | (refine bodyPost_ret (v := .tuple #[.agg #[.int .i64 0, .int .i64 0, .slice none 0 0], .int .i64 (-1)]) ?_ rfl (HP.out zeroT (-1) _ none 0 ?_ (SlIn.nil _ _ _ _) (by omega)); (focus (simp [results, Tryz.results142, go_sem, *]; done)); first | exact bSet3 HB1.out (Nat.le_refl _) _ _ _ _ _ _ | exact HB1.out)
  | (
   generalize w.alloc (.cells #[.int .i64 0, .int .i64 0, .slice none 0 0] 34) = W1 at *
   refine (HK.out _ _ (by decide)).mono ?_
   rintro e w2 ⟨m, hm4, rfl, rfl⟩
   go_wp2_with fail
   refine (HS.out _ _ _ _ (by omega) (by omega) hm4).mono ?_
   rintro e w3 ⟨hb3, l, la, lc, nx, rfl, hs3, hm⟩
   have hzz := HV1.out.facts.1
   obtain ⟨z1, r0, r1, r2, rf⟩ := (HV1.out.below hb3).facts
   have HB3 := tuck (bAfter HB1.out hb3)
   have HS3 : Hid (SlIn w3 (w.heap.size + 1) l (.slice la l.length lc)) := tuck (hs3.mono hzz)
   have HM := tuck hm
   clear hb3 hs3 hm hzz
   go_wp2_with fail
   first
   | (refine bodyPost_ret (v := .tuple #[.agg #[.int .i64 9, .int .i64 0, .slice la l.length lc], .int .i64 nx]) ?_ rfl (HP.out (.mk 9 0 l) nx _ la lc (bSet3 HB3.out (Nat.le_refl _) _ _ _ _ _ _) ((SlIn.set3 HS3.out (Nat.lt_succ_self _)).mono (Nat.le_succ _)) HM.out); simp [results, Tryz.results142, go_sem, *]; done)
   | (refine bodyPost_ret (v := .tuple #[.agg #[.int .i64 10, .int .i64 0, .slice la l.length lc], .int .i64 nx]) ?_ rfl (HP.out (.mk 10 0 l) nx _ la lc (bSet3 HB3.out (Nat.le_refl _) _ _ _ _ _ _) ((SlIn.set3 HS3.out (Nat.lt_succ_self _)).mono (Nat.le_succ _)) HM.out); simp [results, Tryz.results142, go_sem, *]; done)
   | (refine bodyPost_ret (v := .tuple #[.agg #[.int .i64 14, .int .i64 0, .slice la l.length lc], .int .i64 nx]) ?_ rfl (HP.out (.mk 14 0 l) nx _ la lc (bSet3 HB3.out (Nat.le_refl _) _ _ _ _ _ _) ((SlIn.set3 HS3.out (Nat.lt_succ_self _)).mono (Nat.le_succ _)) HM.out); simp [results, Tryz.results142, go_sem, *]; done)
   | (refine bodyPost_ret (v := .tuple #[.agg #[.int .i64 12, .int .i64 0, .slice la l.length lc], .int .i64 nx]) ?_ rfl (HP.out (.mk 12 0 l) nx _ la lc (bSet3 HB3.out (Nat.le_refl _) _ _ _ _ _ _) ((SlIn.set3 HS3.out (Nat.lt_succ_self _)).mono (Nat.le_succ _)) HM.out); simp [results, Tryz.results142, go_sem, *]; done))
 ·have k0 : decide ((s.size : Int) < (a : Int) + 2) = true := decide_eq_true (by omega)
  go_enter Tryz.func142, Tryz.ntmps142
  go_wp2_with fail
  all_goals first
  | (refine bodyPost_ret (v := .tuple #[.agg #[.int .i64 0, .int .i64 0, .slice none 0 0], .int .i64 (-1)]) ?_ rfl (HP.out zeroT (-1) _ none 0 ?_ (SlIn.nil _ _ _ _) (by omega)); (focus (simp [results, Tryz.results142, go_sem, *]; done)); first | exact bSet3 HB1.out (Nat.le_refl _) _ _ _ _ _ _ | exact HB1.out)
  | (
   generalize w.alloc (.cells #[.int .i64 0, .int .i64 0, .slice none 0 0] 34) = W1 at *
   refine (HK.out _ _ (by decide)).mono ?_
   rintro e w2 ⟨m, hm4, rfl, rfl⟩
   go_wp2_with fail
   refine (HS.out _ _ _ _ (by omega) (by omega) hm4).mono ?_
   rintro e w3 ⟨hb3, l, la, lc, nx, rfl, hs3, hm⟩
   have hzz := HV1.out.facts.1
   obtain ⟨z1, r0, r1, r2, rf⟩ := (HV1.out.below hb3).facts
   have HB3 := tuck (bAfter HB1.out hb3)
   have HS3 : Hid (SlIn w3 (w.heap.size + 1) l (.slice la l.length lc)) := tuck (hs3.mono hzz)
   have HM := tuck hm
   clear hb3 hs3 hm hzz
   go_wp2_with fail
   first
   | (refine bodyPost_ret (v := .tuple #[.agg #[.int .i64 9, .int .i64 0, .slice la l.length lc], .int .i64 nx]) ?_ rfl (HP.out (.mk 9 0 l) nx _ la lc (bSet3 HB3.out (Nat.le_refl _) _ _ _ _ _ _) ((SlIn.set3 HS3.out (Nat.lt_succ_self _)).mono (Nat.le_succ _)) HM.out); simp [results, Tryz.results142, go_sem, *]; done)
   | (refine bodyPost_ret (v := .tuple #[.agg #[.int .i64 10, .int .i64 0, .slice la l.length lc], .int .i64 nx]) ?_ rfl (HP.out (.mk 10 0 l) nx _ la lc (bSet3 HB3.out (Nat.le_refl _) _ _ _ _ _ _) ((SlIn.set3 HS3.out (Nat.lt_succ_self _)).mono (Nat.le_succ _)) HM.out); simp [results, Tryz.results142, go_sem, *]; done)
   | (refine bodyPost_ret (v := .tuple #[.agg #[.int .i64 14, .int .i64 0, .slice la l.length lc], .int .i64 nx]) ?_ rfl (HP.out (.mk 14 0 l) nx _ la lc (bSet3 HB3.out (Nat.le_refl _) _ _ _ _ _ _) ((SlIn.set3 HS3.out (Nat.lt_succ_self _)).mono (Nat.le_succ _)) HM.out); simp [results, Tryz.results142, go_sem, *]; done)
   | (refine bodyPost_ret (v := .tuple #[.agg #[.int .i64 12, .int .i64 0, .slice la l.length lc], .int .i64 nx]) ?_ rfl (HP.out (.mk 12 0 l) nx _ la lc (bSet3 HB3.out (Nat.le_refl _) _ _ _ _ _ _) ((SlIn.set3 HS3.out (Nat.lt_succ_self _)).mono (Nat.le_succ _)) HM.out); simp [results, Tryz.results142, go_sem, *]; done))
end Go.Proofs.YtpddjebdncaceaaGreat
