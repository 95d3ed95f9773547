/-
  Pz.
-/
import Derived.Test.YtlbikgnanabjgaaGreatQ32
import Derived.Test.YtlbikgnanabjgaaGreatQ33
import Derived.Test.YtlbikgnanabjgaaGreatQ39
import Derived.Test.YtlbikgnanabjgaaGreatQ41
namespace Go.Proofs.YtlbikgnanabjgaaGreat
open Go.RowKit
def PW (s : ByteArray) (w : World) (e : Ending) (w' : World) : Prop :=
 Below w.heap.size w w' ∧ ∃ (T : Tm) (a : Option Addr) (c : Nat) (nx : Int), e = .returned (.tuple #[.agg #[.int .i64 T.kind, .int .i64 T.num, .slice a T.kids.length c], .int .i64 nx]) ∧ SlIn w' w.heap.size T.kids (.slice a T.kids.length c) ∧ -1 ≤ nx ∧ nx ≤ s.size
def WParse (s : ByteArray) (d : Nat) : Prop := ∀ (a : Int) (w : World), 0 ≤ a → a ≤ s.size → Calls Tryz.prog 61 #[.string s, .int .i64 a, .int .i64 d] w (PW s w)
set_option maxRecDepth 100000 in
set_option maxHeartbeats 8000000 in
theorem prefixW (s : ByteArray) (hs : s.size ≤ 1152921504606846976) (d : Nat) (hd : d ≤ 100) (hrec : WParse s d) (a : Nat) (ha : a < s.size) (w : World) :
  Calls Tryz.prog 71 #[.string s, .int .i64 a, .int .i64 ((d + 1 : Nat) : Int)] w (PW s w) := by
 have HREC : Hid (∀ W, Calls Tryz.prog 61 #[.string s, .int .i64 ((a : Int) + 1), .int .i64 d] W (PW s W)) := tuck fun W => hrec _ W (by omega) (by omega)
 have hai : (a : Int) < (s.size : Int) := by omega
 have hds : (d : Int) + 1 - 1 = (d : Int) := by omega
 have HP : Hid (∀ (T : Tm) (nx : Int) (w' : World) (a' : Option Addr) (c' : Nat), Below w.heap.size w w' → SlIn w' w.heap.size T.kids (.slice a' T.kids.length c') → -1 ≤ nx ∧ nx ≤ s.size → PW s w (.returned (.tuple #[.agg #[.int .i64 T.kind, .int .i64 T.num, .slice a' T.kids.length c'], .int .i64 nx])) w') := tuck fun T nx w' a' c' hb hs' hm => ⟨hb, T, a', c', nx, rfl, hs', hm⟩
 generalize PW s w = post at *
 have HB1 := tuck (below1 w (.cells #[.int .i64 0, .int .i64 0, .slice none 0 0] 25))
 have HV1 := tuck (VarAt.new w 0 0 (.slice none 0 0))
 clear hrec
 go_enter Tryz.func71, Tryz.ntmps71
 go_wp2_with fail
 all_goals
  generalize w.alloc (.cells #[.int .i64 0, .int .i64 0, .slice none 0 0] 25) = W1 at *
  refine (HREC.out _).mono ?_
  rintro e w3 ⟨hb3, T, ta, tc, nx, rfl, hs3, hm⟩
  have hbx := below1 w3 (.cells #[.int .i64 T.kind, .int .i64 T.num, .slice ta T.kids.length tc] 25)
  have HV3 := tuck ((HV1.out.below hb3).below hbx)
  have HVT := tuck (VarAt.new w3 T.kind T.num (.slice ta T.kids.length tc))
  have HB3 := tuck (bAfter HB1.out (bAfter hb3 hbx))
  have HZ1 : Hid (w.heap.size + 1 ≤ W1.heap.size) := tuck HV1.out.facts.1
  have HS3 := tuck (hs3.below hbx)
  have HM := tuck hm
  obtain ⟨z1, r0, r1, r2, rf⟩ := HV3.out.facts
  clear hb3 hs3 hbx hm
  have hby := below1 (w3.alloc (.cells #[.int .i64 T.kind, .int .i64 T.num, .slice ta T.kids.length tc] 25)) (.cells #[.int .i64 T.kind, .int .i64 T.num, .slice ta T.kids.length tc] 25)
  have HV4 := tuck (HV3.out.below hby)
  have HB4 := tuck (bAfter HB3.out hby)
  have hz1 : w.heap.size + 1 ≤ W1.heap.size := HZ1.out
  have hx3 : SlX ((w3.alloc (.cells #[.int .i64 T.kind, .int .i64 T.num, .slice ta T.kids.length tc] 25)).alloc (.cells #[.int .i64 T.kind, .int .i64 T.num, .slice ta T.kids.length tc] 25)) (fun i => i < w.heap.size + 1) T.kids (.slice ta T.kids.length tc) := SlX.of_sl (HS3.out.below hby) (fun i hi => by omega)
  have HNODE : Hid (∀ K : Int, Calls Tryz.prog 43 #[.int .i64 K, .slice (some ⟨w3.heap.size + 1, 0, none⟩) 1 1] ((w3.alloc (.cells #[.int .i64 T.kind, .int .i64 T.num, .slice ta T.kids.length tc] 25)).alloc (.cells #[.int .i64 T.kind, .int .i64 T.num, .slice ta T.kids.length tc] 25)) fun e w' => Below ((w3.alloc (.cells #[.int .i64 T.kind, .int .i64 T.num, .slice ta T.kids.length tc] 25)).alloc (.cells #[.int .i64 T.kind, .int .i64 T.num, .slice ta T.kids.length tc] 25)).heap.size ((w3.alloc (.cells #[.int .i64 T.kind, .int .i64 T.num, .slice ta T.kids.length tc] 25)).alloc (.cells #[.int .i64 T.kind, .int .i64 T.num, .slice ta T.kids.length tc] 25)) w' ∧ ∃ (a : Option Addr) (c : Nat), e = .returned (.agg #[.int .i64 K, .int .i64 0, .slice a 1 c]) ∧ SlX w' (fun i => i < w.heap.size + 1) [T] (.slice a 1 c)) := tuck fun K => by
   have h := nodeX_any K [(T, .slice ta T.kids.length tc)] ((w3.alloc (.cells #[.int .i64 T.kind, .int .i64 T.num, .slice ta T.kids.length tc] 25)).alloc (.cells #[.int .i64 T.kind, .int .i64 T.num, .slice ta T.kids.length tc] 25)) (w3.alloc (.cells #[.int .i64 T.kind, .int .i64 T.num, .slice ta T.kids.length tc] 25)).heap.size 1 25 #[.int .i64 T.kind, .int .i64 T.num, .slice ta T.kids.length tc] (fun i => i < w.heap.size + 1) (fun i hi => by have h1 := HB4.out.size; have h2 := HV4.out.facts.1; omega) (by simp) (by simp) (heap_new _ _) (by simp [cellsL]) (fun x hx => by simp only [List.mem_singleton] at hx; subst hx; exact hx3)
   rw [show (w3.alloc (.cells #[.int .i64 T.kind, .int .i64 T.num, .slice ta T.kids.length tc] 25)).heap.size = w3.heap.size + 1 by simp] at h
   exact h
  obtain ⟨y0, b0, b1, b2, -⟩ := HVT.out.facts
  clear hby hx3 hz1 z1 r0 r1 r2 rf
  go_wp2_with fail
  refine (HNODE.out _).mono ?_
  rintro e w6 ⟨hb6, xa, xc, rfl, hs6⟩
  obtain ⟨z1, r0, r1, r2, rf⟩ := (HV4.out.below hb6).facts
  have HB6 := tuck (bAfter HB4.out hb6)
  have HS6 := tuck (SlX.from hs6)
  clear hb6 hs6 HNODE
  go_wp2_with fail
  first
  | (refine bodyPost_ret (v := .tuple #[.agg #[.int .i64 11, .int .i64 0, .slice xa 1 xc], .int .i64 nx]) ?_ rfl (HP.out (.mk 11 0 [T]) nx _ xa xc (bSet3 HB6.out (Nat.le_refl _) _ _ _ _ _ _) ((SlIn.set3 HS6.out (Nat.lt_succ_self _)).mono (Nat.le_succ _)) HM.out); simp [results, Tryz.results71, go_sem, *]; done)
  | (refine bodyPost_ret (v := .tuple #[.agg #[.int .i64 15, .int .i64 0, .slice xa 1 xc], .int .i64 nx]) ?_ rfl (HP.out (.mk 15 0 [T]) nx _ xa xc (bSet3 HB6.out (Nat.le_refl _) _ _ _ _ _ _) ((SlIn.set3 HS6.out (Nat.lt_succ_self _)).mono (Nat.le_succ _)) HM.out); simp [results, Tryz.results71, go_sem, *]; done)
  | (refine bodyPost_ret (v := .tuple #[.agg #[.int .i64 16, .int .i64 0, .slice xa 1 xc], .int .i64 nx]) ?_ rfl (HP.out (.mk 16 0 [T]) nx _ xa xc (bSet3 HB6.out (Nat.le_refl _) _ _ _ _ _ _) ((SlIn.set3 HS6.out (Nat.lt_succ_self _)).mono (Nat.le_succ _)) HM.out); simp [results, Tryz.results71, go_sem, *]; done)
  | (refine bodyPost_ret (v := .tuple #[.agg #[.int .i64 8, .int .i64 0, .slice xa 1 xc], .int .i64 nx]) ?_ rfl (HP.out (.mk 8 0 [T]) nx _ xa xc (bSet3 HB6.out (Nat.le_refl _) _ _ _ _ _ _) ((SlIn.set3 HS6.out (Nat.lt_succ_self _)).mono (Nat.le_succ _)) HM.out); simp [results, Tryz.results71, go_sem, *]; done)
set_option maxRecDepth 100000 in
set_option maxHeartbeats 8000000 in
theorem roundW (s : ByteArray) (hs : s.size ≤ 1152921504606846976) (d : Nat) (hrec : WParse s d) (a : Int) (ha0 : 0 ≤ a) (ha : a ≤ s.size) (w : World) :
  Calls Tryz.prog 72 #[.string s, .int .i64 a, .int .i64 d] w (PW s w) := by
 have HR1 : Hid (∀ W, Calls Tryz.prog 61 #[.string s, .int .i64 a, .int .i64 d] W (PW s W)) := tuck fun W => hrec a W ha0 ha
 have HR2 : Hid (∀ (n : Nat) W, n < s.size → Calls Tryz.prog 61 #[.string s, .int .i64 ((n : Int) + 1), .int .i64 d] W (PW s W)) := tuck fun n W h => hrec _ W (by omega) (by omega)
 have HP : Hid (∀ (T : Tm) (nx : Int) (w' : World) (a' : Option Addr) (c' : Nat), Below w.heap.size w w' → SlIn w' w.heap.size T.kids (.slice a' T.kids.length c') → -1 ≤ nx ∧ nx ≤ s.size → PW s w (.returned (.tuple #[.agg #[.int .i64 T.kind, .int .i64 T.num, .slice a' T.kids.length c'], .int .i64 nx])) w') := tuck fun T nx w' a' c' hb hs' hm => ⟨hb, T, a', c', nx, rfl, hs', hm⟩
 generalize PW s w = post at *
 have HB1 := tuck (below1 w (.cells #[.int .i64 0, .int .i64 0, .slice none 0 0] 25))
 have HV1 := tuck (VarAt.new w 0 0 (.slice none 0 0))
 clear hrec ha0 ha
 go_enter Tryz.func72, Tryz.ntmps72
 go_wp2_with fail
 generalize w.alloc (.cells #[.int .i64 0, .int .i64 0, .slice none 0 0] 25) = W1 at *
 refine (HR1.out _).mono ?_
 rintro e w3 ⟨hb3, T, ta, tc, nx, rfl, hs3, hm⟩
 have hbx := below1 w3 (.cells #[.int .i64 T.kind, .int .i64 T.num, .slice ta T.kids.length tc] 25)
 have HV3 := tuck ((HV1.out.below hb3).below hbx)
 have HVT := tuck (VarAt.new w3 T.kind T.num (.slice ta T.kids.length tc))
 have HB3 := tuck (bAfter HB1.out (bAfter hb3 hbx))
 have HZ1 : Hid (w.heap.size + 1 ≤ W1.heap.size) := tuck HV1.out.facts.1
 have HS3 := tuck (hs3.below hbx)
 have HM := tuck hm
 obtain ⟨z1, r0, r1, r2, rf⟩ := HV3.out.facts
 clear hb3 hs3 hbx hm
 by_cases h0 : nx < 0
 ·have kn : decide (nx < 0) = true := decide_eq_true h0
  go_wp2_with fail
  refine bodyPost_ret (v := .tuple #[.agg #[.int .i64 0, .int .i64 0, .slice none 0 0], .int .i64 (-1)]) ?_ rfl (HP.out zeroT (-1) _ none 0 ?_ (SlIn.nil _ _ _ _) (by omega))
  (focus (simp [results, Tryz.results72, go_sem, *]; done))
  first | exact bSet3 HB3.out (Nat.le_refl _) _ _ _ _ _ _ | exact HB3.out
 by_cases h1 : (s.size : Int) ≤ nx
 ·have kn : decide (nx < 0) = false := decide_eq_false h0
  have kg : decide ((s.size : Int) ≤ nx) = true := decide_eq_true h1
  go_wp2_with fail
  refine bodyPost_ret (v := .tuple #[.agg #[.int .i64 0, .int .i64 0, .slice none 0 0], .int .i64 (-1)]) ?_ rfl (HP.out zeroT (-1) _ none 0 ?_ (SlIn.nil _ _ _ _) (by omega))
  (focus (simp [results, Tryz.results72, go_sem, *]; done))
  first | exact bSet3 HB3.out (Nat.le_refl _) _ _ _ _ _ _ | exact HB3.out
 obtain ⟨n, rfl⟩ : ∃ n : Nat, nx = n := ⟨nx.toNat, by omega⟩
 have hl : n < s.size := by omega
 have kn : decide ((n : Int) < 0) = false := decide_eq_false (by omega)
 have kg : decide ((s.size : Int) ≤ (n : Int)) = false := decide_eq_false (by omega)
 have ki : (n : Int) < (s.size : Int) := by omega
 clear h0 h1
 go_wp2_with fail
 all_goals
  refine (HR2.out n _ hl).mono ?_
  rintro e w5 ⟨hb5, U, ua, uc, ny, rfl, hs5, hm2⟩
  have HZ3 : Hid (w.heap.size + 1 ≤ (w3.alloc (.cells #[.int .i64 T.kind, .int .i64 T.num, .slice ta T.kids.length tc] 25)).heap.size) := tuck z1
  have hby := below1 w5 (.cells #[.int .i64 U.kind, .int .i64 U.num, .slice ua U.kids.length uc] 25)
  have HV5 := tuck ((HV3.out.below hb5).below hby)
  have HVT5 := tuck ((HVT.out.below hb5).below hby)
  have HVU5 := tuck (VarAt.new w5 U.kind U.num (.slice ua U.kids.length uc))
  have HB5 := tuck (bAfter HB3.out (bAfter hb5 hby))
  have HST := tuck ((HS3.out.below hb5).below hby)
  have HSU := tuck (hs5.below hby)
  have HM2 := tuck hm2
  clear z1 r0 r1 r2 rf
  obtain ⟨z1, r0, r1, r2, rf⟩ := HV5.out.facts
  have hbr := below1 (w5.alloc (.cells #[.int .i64 U.kind, .int .i64 U.num, .slice ua U.kids.length uc] 25)) (.cells #[.int .i64 T.kind, .int .i64 T.num, .slice ta T.kids.length tc, .int .i64 U.kind, .int .i64 U.num, .slice ua U.kids.length uc] 25)
  have HV6 := tuck (HV5.out.below hbr)
  have HB6 := tuck (bAfter HB5.out hbr)
  have hzt : w.heap.size + 1 ≤ W1.heap.size := HZ1.out
  have hzu := HZ3.out
  have HNODE : Hid (∀ K : Int, Calls Tryz.prog 43 #[.int .i64 K, .slice (some ⟨w5.heap.size + 1, 0, none⟩) 2 2] ((w5.alloc (.cells #[.int .i64 U.kind, .int .i64 U.num, .slice ua U.kids.length uc] 25)).alloc (.cells #[.int .i64 T.kind, .int .i64 T.num, .slice ta T.kids.length tc, .int .i64 U.kind, .int .i64 U.num, .slice ua U.kids.length uc] 25)) fun e w' => Below ((w5.alloc (.cells #[.int .i64 U.kind, .int .i64 U.num, .slice ua U.kids.length uc] 25)).alloc (.cells #[.int .i64 T.kind, .int .i64 T.num, .slice ta T.kids.length tc, .int .i64 U.kind, .int .i64 U.num, .slice ua U.kids.length uc] 25)).heap.size ((w5.alloc (.cells #[.int .i64 U.kind, .int .i64 U.num, .slice ua U.kids.length uc] 25)).alloc (.cells #[.int .i64 T.kind, .int .i64 T.num, .slice ta T.kids.length tc, .int .i64 U.kind, .int .i64 U.num, .slice ua U.kids.length uc] 25)) w' ∧ ∃ (a : Option Addr) (c : Nat), e = .returned (.agg #[.int .i64 K, .int .i64 0, .slice a 2 c]) ∧ SlX w' (fun i => i < w.heap.size + 1) [T, U] (.slice a 2 c)) := tuck fun K => by
   have h := nodeX_any K [(T, .slice ta T.kids.length tc), (U, .slice ua U.kids.length uc)] ((w5.alloc (.cells #[.int .i64 U.kind, .int .i64 U.num, .slice ua U.kids.length uc] 25)).alloc (.cells #[.int .i64 T.kind, .int .i64 T.num, .slice ta T.kids.length tc, .int .i64 U.kind, .int .i64 U.num, .slice ua U.kids.length uc] 25)) (w5.alloc (.cells #[.int .i64 U.kind, .int .i64 U.num, .slice ua U.kids.length uc] 25)).heap.size 2 25 #[.int .i64 T.kind, .int .i64 T.num, .slice ta T.kids.length tc, .int .i64 U.kind, .int .i64 U.num, .slice ua U.kids.length uc] (fun i => i < w.heap.size + 1) (fun i hi => by have h1 := HB6.out.size; have h2 := HV6.out.facts.1; omega) (by simp) (by simp) (heap_new _ _) (by simp [cellsL]) (fun x hx => by
    simp only [List.mem_cons, List.not_mem_nil, or_false] at hx
    rcases hx with rfl | rfl
    ·exact SlX.of_sl (HST.out.below hbr) (fun i hi => by omega)
    ·exact SlX.of_sl (HSU.out.below hbr) (fun i hi => by omega))
   rw [show (w5.alloc (.cells #[.int .i64 U.kind, .int .i64 U.num, .slice ua U.kids.length uc] 25)).heap.size = w5.heap.size + 1 by simp] at h
   exact h
  obtain ⟨zt, t0, t1, t2, -⟩ := HVT5.out.facts
  obtain ⟨zu, u0, u1, u2, -⟩ := HVU5.out.facts
  clear hbr hzt hzu hb5 hby hs5 hm2
  by_cases h0b : ny < 0
  ·have knb : decide (ny < 0) = true := decide_eq_true h0b
   go_wp2_with fail
   all_goals (refine bodyPost_ret (v := .tuple #[.agg #[.int .i64 0, .int .i64 0, .slice none 0 0], .int .i64 (-1)]) ?_ rfl (HP.out zeroT (-1) _ none 0 ?_ (SlIn.nil _ _ _ _) (by omega)); (focus (simp [results, Tryz.results72, go_sem, *]; done)); first | exact bSet3 HB5.out (Nat.le_refl _) _ _ _ _ _ _ | exact HB5.out)
  by_cases h1b : (s.size : Int) ≤ ny
  ·have knb : decide (ny < 0) = false := decide_eq_false h0b
   have kgb : decide ((s.size : Int) ≤ ny) = true := decide_eq_true h1b
   go_wp2_with fail
   all_goals (refine bodyPost_ret (v := .tuple #[.agg #[.int .i64 0, .int .i64 0, .slice none 0 0], .int .i64 (-1)]) ?_ rfl (HP.out zeroT (-1) _ none 0 ?_ (SlIn.nil _ _ _ _) (by omega)); (focus (simp [results, Tryz.results72, go_sem, *]; done)); first | exact bSet3 HB5.out (Nat.le_refl _) _ _ _ _ _ _ | exact HB5.out)
  obtain ⟨m, rfl⟩ : ∃ m : Nat, ny = m := ⟨ny.toNat, by omega⟩
  have hlb : m < s.size := by omega
  have knb : decide ((m : Int) < 0) = false := decide_eq_false (by omega)
  have kgb : decide ((s.size : Int) ≤ (m : Int)) = false := decide_eq_false (by omega)
  have kib : (m : Int) < (s.size : Int) := by omega
  clear h0b h1b
  go_wp2_with fail
  all_goals first
  | (refine bodyPost_ret (v := .tuple #[.agg #[.int .i64 0, .int .i64 0, .slice none 0 0], .int .i64 (-1)]) ?_ rfl (HP.out zeroT (-1) _ none 0 ?_ (SlIn.nil _ _ _ _) (by omega)); (focus (simp [results, Tryz.results72, go_sem, *]; done)); first | exact bSet3 HB5.out (Nat.le_refl _) _ _ _ _ _ _ | exact HB5.out)
  | (
   refine (HNODE.out _).mono ?_
   rintro e w7 ⟨hb7, xa, xc, rfl, hs7⟩
   clear z1 r0 r1 r2 rf
   obtain ⟨z1, r0, r1, r2, rf⟩ := (HV6.out.below hb7).facts
   have HB7 := tuck (bAfter HB6.out hb7)
   have HS7 := tuck (SlX.from hs7)
   clear hb7 hs7 HNODE
   go_wp2_with fail
   first
   | (refine bodyPost_ret (v := .tuple #[.agg #[.int .i64 3, .int .i64 0, .slice xa 2 xc], .int .i64 ((m : Int) + 1)]) ?_ rfl (HP.out (.mk 3 0 [T, U]) ((m : Int) + 1) _ xa xc (bSet3 HB7.out (Nat.le_refl _) _ _ _ _ _ _) ((SlIn.set3 HS7.out (Nat.lt_succ_self _)).mono (Nat.le_succ _)) (by omega)); simp [results, Tryz.results72, go_sem, *]; done)
   | (refine bodyPost_ret (v := .tuple #[.agg #[.int .i64 13, .int .i64 0, .slice xa 2 xc], .int .i64 ((m : Int) + 1)]) ?_ rfl (HP.out (.mk 13 0 [T, U]) ((m : Int) + 1) _ xa xc (bSet3 HB7.out (Nat.le_refl _) _ _ _ _ _ _) ((SlIn.set3 HS7.out (Nat.lt_succ_self _)).mono (Nat.le_succ _)) (by omega)); simp [results, Tryz.results72, go_sem, *]; done)
   | (refine bodyPost_ret (v := .tuple #[.agg #[.int .i64 5, .int .i64 0, .slice xa 2 xc], .int .i64 ((m : Int) + 1)]) ?_ rfl (HP.out (.mk 5 0 [T, U]) ((m : Int) + 1) _ xa xc (bSet3 HB7.out (Nat.le_refl _) _ _ _ _ _ _) ((SlIn.set3 HS7.out (Nat.lt_succ_self _)).mono (Nat.le_succ _)) (by omega)); simp [results, Tryz.results72, go_sem, *]; done)
   )
end Go.Proofs.YtlbikgnanabjgaaGreat
