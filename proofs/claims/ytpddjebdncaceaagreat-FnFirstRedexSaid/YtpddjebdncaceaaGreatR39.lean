/-
  ParseA.
-/
import Derived.Test.YtpddjebdncaceaaGreatR14
import Derived.Test.YtpddjebdncaceaaGreatR26
namespace Go.Proofs.YtpddjebdncaceaaGreat
open Go.RowKit
def PPost (s : ByteArray) (w : World) (o : Option (Tm × Nat)) (e : Ending) (w' : World) : Prop :=
 Below w.heap.size w w' ∧ ∃ (T : Tm) (a : Option Addr) (c : Nat) (nx : Int), e = .returned (.tuple #[.agg #[.int .i64 T.kind, .int .i64 T.num, .slice a T.kids.length c], .int .i64 nx]) ∧ SlIn w' w.heap.size T.kids (.slice a T.kids.length c) ∧
  match o with
  | none => nx = -1
  | some x => T = x.1 ∧ nx = (x.2 : Int) ∧ x.2 ≤ s.size
def ParseOk (s : ByteArray) (d : Nat) : Prop := ∀ (a : Nat) (w : World), Calls Tryz.prog 129 #[.string s, .int .i64 a, .int .i64 d] w (PPost s w (pt s d a))
set_option maxRecDepth 100000 in
set_option maxHeartbeats 4000000 in
theorem prefix_any (s : ByteArray) (hs : s.size ≤ 1152921504606846976) (d : Nat) (hd : d ≤ 100) (hrec : ParseOk s d) (a : Nat) (ha : a < s.size) (w : World) :
  Calls Tryz.prog 140 #[.string s, .int .i64 a, .int .i64 ((d + 1 : Nat) : Int)] w (PPost s w ((pt s d (a + 1)).map fun x => (.mk (preKind (byteAt s a)) 0 [x.1], x.2))) := by
 have HREC : Hid (∀ W, Calls Tryz.prog 129 #[.string s, .int .i64 ((a : Int) + 1), .int .i64 d] W (PPost s W (pt s d (a + 1)))) := tuck fun W => by have := hrec (a + 1) W; rwa [show ((a + 1 : Nat) : Int) = (a : Int) + 1 by omega] at this
 have hai : (a : Int) < (s.size : Int) := by omega
 have hdd : ((d + 1 : Nat) : Int) - 1 = (d : Int) := by omega
 have HP : Hid (∀ (T : Tm) (nx : Int) (w' : World) (k : Int) (a' : Option Addr) (c' : Nat), k = preKind (byteAt s a) → Below w.heap.size w w' → SlIn w' w.heap.size [T] (.slice a' 1 c') → (match pt s d (a + 1) with
  | none => nx = -1
  | some x => T = x.1 ∧ nx = (x.2 : Int) ∧ x.2 ≤ s.size) → PPost s w ((pt s d (a + 1)).map fun x => (.mk (preKind (byteAt s a)) 0 [x.1], x.2)) (.returned (.tuple #[.agg #[.int .i64 k, .int .i64 0, .slice a' 1 c'], .int .i64 nx])) w') := tuck fun T nx w' k a' c' hk hb hs' hm => by
  refine ⟨hb, .mk k 0 [T], a', c', nx, rfl, hs', ?_⟩
  cases hp : pt s d (a + 1) with
  | none => rw [hp] at hm; exact hm
  | some x => rw [hp] at hm; exact ⟨by rw [hm.1, hk], hm.2⟩
 have HK : Hid (preKind (byteAt s a) = if s[a].toNat = 33 then 11 else if s[a].toNat = 94 then 15 else if s[a].toNat = 95 then 16 else 8) := tuck (by rw [byteAt_eq ha]; rfl)
 generalize PPost s w ((pt s d (a + 1)).map fun x => (.mk (preKind (byteAt s a)) 0 [x.1], x.2)) = post at *
 have HB1 := tuck (below1 w (.cells #[.int .i64 0, .int .i64 0, .slice none 0 0] 34))
 have HV1 := tuck (VarAt.new w 0 0 (.slice none 0 0))
 have hds : (d : Int) + 1 - 1 = (d : Int) := by omega
 clear hrec
 by_cases h33 : s[a].toNat = 33
 ·have g33 : ((s[a].toNat : Int) == 33) = true := by rw [beq_iff_eq]; omega
  have HKK : Hid ((11 : Int) = preKind (byteAt s a)) := tuck (by rw [HK.out, if_pos h33])
  go_enter Tryz.func140, Tryz.ntmps140
  go_wp2_with fail
  generalize w.alloc (.cells #[.int .i64 0, .int .i64 0, .slice none 0 0] 34) = W1 at *
  refine (HREC.out _).mono ?_
  rintro e w3 ⟨hb3, T, ta, tc, nx, rfl, hs3, hm⟩
  have hbx := below1 w3 (.cells #[.int .i64 T.kind, .int .i64 T.num, .slice ta T.kids.length tc] 34)
  have hby := below1 (w3.alloc (.cells #[.int .i64 T.kind, .int .i64 T.num, .slice ta T.kids.length tc] 34)) (.cells #[.int .i64 T.kind, .int .i64 T.num, .slice ta T.kids.length tc] 34)
  have HV3 := tuck (((HV1.out.below hb3).below hbx).below hby)
  have HB3 := tuck (bAfter HB1.out (bAfter (bAfter hb3 hbx) hby))
  have hz1 : w.heap.size + 1 ≤ W1.heap.size := HV1.out.facts.1
  have hx3 : SlX ((w3.alloc (.cells #[.int .i64 T.kind, .int .i64 T.num, .slice ta T.kids.length tc] 34)).alloc (.cells #[.int .i64 T.kind, .int .i64 T.num, .slice ta T.kids.length tc] 34)) (fun i => i < w.heap.size + 1) T.kids (.slice ta T.kids.length tc) := SlX.of_sl ((hs3.below hbx).below hby) (fun i hi => Nat.lt_of_lt_of_le hi hz1)
  have HNODE : Hid (Calls Tryz.prog 86 #[.int .i64 11, .slice (some ⟨w3.heap.size + 1, 0, none⟩) 1 1] ((w3.alloc (.cells #[.int .i64 T.kind, .int .i64 T.num, .slice ta T.kids.length tc] 34)).alloc (.cells #[.int .i64 T.kind, .int .i64 T.num, .slice ta T.kids.length tc] 34)) fun e w' => Below ((w3.alloc (.cells #[.int .i64 T.kind, .int .i64 T.num, .slice ta T.kids.length tc] 34)).alloc (.cells #[.int .i64 T.kind, .int .i64 T.num, .slice ta T.kids.length tc] 34)).heap.size ((w3.alloc (.cells #[.int .i64 T.kind, .int .i64 T.num, .slice ta T.kids.length tc] 34)).alloc (.cells #[.int .i64 T.kind, .int .i64 T.num, .slice ta T.kids.length tc] 34)) w' ∧ ∃ (a : Option Addr) (c : Nat), e = .returned (.agg #[.int .i64 11, .int .i64 0, .slice a 1 c]) ∧ SlX w' (fun i => i < w.heap.size + 1) [T] (.slice a 1 c)) := tuck (by
   have h := nodeX_any 11 [(T, .slice ta T.kids.length tc)] ((w3.alloc (.cells #[.int .i64 T.kind, .int .i64 T.num, .slice ta T.kids.length tc] 34)).alloc (.cells #[.int .i64 T.kind, .int .i64 T.num, .slice ta T.kids.length tc] 34)) (w3.alloc (.cells #[.int .i64 T.kind, .int .i64 T.num, .slice ta T.kids.length tc] 34)).heap.size 1 34 #[.int .i64 T.kind, .int .i64 T.num, .slice ta T.kids.length tc] (fun i => i < w.heap.size + 1) (fun i hi => by have h1 := hb3.size; have h2 := hby.size; have h3 := hbx.size; omega) (by simp) (by simp) (heap_new _ _) (by simp [cellsL]) (fun x hx => by simp only [List.mem_singleton] at hx; subst hx; exact hx3)
   rw [show (w3.alloc (.cells #[.int .i64 T.kind, .int .i64 T.num, .slice ta T.kids.length tc] 34)).heap.size = w3.heap.size + 1 by simp] at h
   exact h)
  obtain ⟨y0, b0, b1, b2, -⟩ := (VarAt.new w3 T.kind T.num (.slice ta T.kids.length tc)).facts
  have HM := tuck hm
  clear hb3 hbx hby hs3 hm hx3 HREC
  go_wp2_with fail
  refine HNODE.out.mono ?_
  rintro e w6 ⟨hb6, xa, xc, rfl, hs6⟩
  obtain ⟨z1, r0, r1, r2, rf⟩ := (HV3.out.below hb6).facts
  have HB6 := tuck (bAfter HB3.out hb6)
  have HS6 := tuck (SlX.from hs6)
  clear hb6 hs6 HNODE
  go_wp2_with fail
  refine bodyPost_ret (v := .tuple #[.agg #[.int .i64 11, .int .i64 0, .slice xa 1 xc], .int .i64 nx]) (by simp [results, Tryz.results140, go_sem, *]) rfl (HP.out T nx _ 11 xa xc HKK.out ?_ ?_ HM.out)
  ·exact bSet3 HB6.out (Nat.le_refl _) _ _ _ _ _ _
  ·exact (SlIn.set3 HS6.out (Nat.lt_succ_self _)).mono (Nat.le_succ _)
 by_cases h94 : s[a].toNat = 94
 ·have g33 : ((s[a].toNat : Int) == 33) = false := by rw [beq_eq_false_iff_ne]; omega
  have g94 : ((s[a].toNat : Int) == 94) = true := by rw [beq_iff_eq]; omega
  have HKK : Hid ((15 : Int) = preKind (byteAt s a)) := tuck (by rw [HK.out, if_neg h33, if_pos h94])
  go_enter Tryz.func140, Tryz.ntmps140
  go_wp2_with fail
  generalize w.alloc (.cells #[.int .i64 0, .int .i64 0, .slice none 0 0] 34) = W1 at *
  refine (HREC.out _).mono ?_
  rintro e w3 ⟨hb3, T, ta, tc, nx, rfl, hs3, hm⟩
  have hbx := below1 w3 (.cells #[.int .i64 T.kind, .int .i64 T.num, .slice ta T.kids.length tc] 34)
  have hby := below1 (w3.alloc (.cells #[.int .i64 T.kind, .int .i64 T.num, .slice ta T.kids.length tc] 34)) (.cells #[.int .i64 T.kind, .int .i64 T.num, .slice ta T.kids.length tc] 34)
  have HV3 := tuck (((HV1.out.below hb3).below hbx).below hby)
  have HB3 := tuck (bAfter HB1.out (bAfter (bAfter hb3 hbx) hby))
  have hz1 : w.heap.size + 1 ≤ W1.heap.size := HV1.out.facts.1
  have hx3 : SlX ((w3.alloc (.cells #[.int .i64 T.kind, .int .i64 T.num, .slice ta T.kids.length tc] 34)).alloc (.cells #[.int .i64 T.kind, .int .i64 T.num, .slice ta T.kids.length tc] 34)) (fun i => i < w.heap.size + 1) T.kids (.slice ta T.kids.length tc) := SlX.of_sl ((hs3.below hbx).below hby) (fun i hi => Nat.lt_of_lt_of_le hi hz1)
  have HNODE : Hid (Calls Tryz.prog 86 #[.int .i64 15, .slice (some ⟨w3.heap.size + 1, 0, none⟩) 1 1] ((w3.alloc (.cells #[.int .i64 T.kind, .int .i64 T.num, .slice ta T.kids.length tc] 34)).alloc (.cells #[.int .i64 T.kind, .int .i64 T.num, .slice ta T.kids.length tc] 34)) fun e w' => Below ((w3.alloc (.cells #[.int .i64 T.kind, .int .i64 T.num, .slice ta T.kids.length tc] 34)).alloc (.cells #[.int .i64 T.kind, .int .i64 T.num, .slice ta T.kids.length tc] 34)).heap.size ((w3.alloc (.cells #[.int .i64 T.kind, .int .i64 T.num, .slice ta T.kids.length tc] 34)).alloc (.cells #[.int .i64 T.kind, .int .i64 T.num, .slice ta T.kids.length tc] 34)) w' ∧ ∃ (a : Option Addr) (c : Nat), e = .returned (.agg #[.int .i64 15, .int .i64 0, .slice a 1 c]) ∧ SlX w' (fun i => i < w.heap.size + 1) [T] (.slice a 1 c)) := tuck (by
   have h := nodeX_any 15 [(T, .slice ta T.kids.length tc)] ((w3.alloc (.cells #[.int .i64 T.kind, .int .i64 T.num, .slice ta T.kids.length tc] 34)).alloc (.cells #[.int .i64 T.kind, .int .i64 T.num, .slice ta T.kids.length tc] 34)) (w3.alloc (.cells #[.int .i64 T.kind, .int .i64 T.num, .slice ta T.kids.length tc] 34)).heap.size 1 34 #[.int .i64 T.kind, .int .i64 T.num, .slice ta T.kids.length tc] (fun i => i < w.heap.size + 1) (fun i hi => by have h1 := hb3.size; have h2 := hby.size; have h3 := hbx.size; omega) (by simp) (by simp) (heap_new _ _) (by simp [cellsL]) (fun x hx => by simp only [List.mem_singleton] at hx; subst hx; exact hx3)
   rw [show (w3.alloc (.cells #[.int .i64 T.kind, .int .i64 T.num, .slice ta T.kids.length tc] 34)).heap.size = w3.heap.size + 1 by simp] at h
   exact h)
  obtain ⟨y0, b0, b1, b2, -⟩ := (VarAt.new w3 T.kind T.num (.slice ta T.kids.length tc)).facts
  have HM := tuck hm
  clear hb3 hbx hby hs3 hm hx3 HREC
  go_wp2_with fail
  refine HNODE.out.mono ?_
  rintro e w6 ⟨hb6, xa, xc, rfl, hs6⟩
  obtain ⟨z1, r0, r1, r2, rf⟩ := (HV3.out.below hb6).facts
  have HB6 := tuck (bAfter HB3.out hb6)
  have HS6 := tuck (SlX.from hs6)
  clear hb6 hs6 HNODE
  go_wp2_with fail
  refine bodyPost_ret (v := .tuple #[.agg #[.int .i64 15, .int .i64 0, .slice xa 1 xc], .int .i64 nx]) (by simp [results, Tryz.results140, go_sem, *]) rfl (HP.out T nx _ 15 xa xc HKK.out ?_ ?_ HM.out)
  ·exact bSet3 HB6.out (Nat.le_refl _) _ _ _ _ _ _
  ·exact (SlIn.set3 HS6.out (Nat.lt_succ_self _)).mono (Nat.le_succ _)
 by_cases h95 : s[a].toNat = 95
 ·have g33 : ((s[a].toNat : Int) == 33) = false := by rw [beq_eq_false_iff_ne]; omega
  have g94 : ((s[a].toNat : Int) == 94) = false := by rw [beq_eq_false_iff_ne]; omega
  have g95 : ((s[a].toNat : Int) == 95) = true := by rw [beq_iff_eq]; omega
  have HKK : Hid ((16 : Int) = preKind (byteAt s a)) := tuck (by rw [HK.out, if_neg h33, if_neg h94, if_pos h95])
  go_enter Tryz.func140, Tryz.ntmps140
  go_wp2_with fail
  generalize w.alloc (.cells #[.int .i64 0, .int .i64 0, .slice none 0 0] 34) = W1 at *
  refine (HREC.out _).mono ?_
  rintro e w3 ⟨hb3, T, ta, tc, nx, rfl, hs3, hm⟩
  have hbx := below1 w3 (.cells #[.int .i64 T.kind, .int .i64 T.num, .slice ta T.kids.length tc] 34)
  have hby := below1 (w3.alloc (.cells #[.int .i64 T.kind, .int .i64 T.num, .slice ta T.kids.length tc] 34)) (.cells #[.int .i64 T.kind, .int .i64 T.num, .slice ta T.kids.length tc] 34)
  have HV3 := tuck (((HV1.out.below hb3).below hbx).below hby)
  have HB3 := tuck (bAfter HB1.out (bAfter (bAfter hb3 hbx) hby))
  have hz1 : w.heap.size + 1 ≤ W1.heap.size := HV1.out.facts.1
  have hx3 : SlX ((w3.alloc (.cells #[.int .i64 T.kind, .int .i64 T.num, .slice ta T.kids.length tc] 34)).alloc (.cells #[.int .i64 T.kind, .int .i64 T.num, .slice ta T.kids.length tc] 34)) (fun i => i < w.heap.size + 1) T.kids (.slice ta T.kids.length tc) := SlX.of_sl ((hs3.below hbx).below hby) (fun i hi => Nat.lt_of_lt_of_le hi hz1)
  have HNODE : Hid (Calls Tryz.prog 86 #[.int .i64 16, .slice (some ⟨w3.heap.size + 1, 0, none⟩) 1 1] ((w3.alloc (.cells #[.int .i64 T.kind, .int .i64 T.num, .slice ta T.kids.length tc] 34)).alloc (.cells #[.int .i64 T.kind, .int .i64 T.num, .slice ta T.kids.length tc] 34)) fun e w' => Below ((w3.alloc (.cells #[.int .i64 T.kind, .int .i64 T.num, .slice ta T.kids.length tc] 34)).alloc (.cells #[.int .i64 T.kind, .int .i64 T.num, .slice ta T.kids.length tc] 34)).heap.size ((w3.alloc (.cells #[.int .i64 T.kind, .int .i64 T.num, .slice ta T.kids.length tc] 34)).alloc (.cells #[.int .i64 T.kind, .int .i64 T.num, .slice ta T.kids.length tc] 34)) w' ∧ ∃ (a : Option Addr) (c : Nat), e = .returned (.agg #[.int .i64 16, .int .i64 0, .slice a 1 c]) ∧ SlX w' (fun i => i < w.heap.size + 1) [T] (.slice a 1 c)) := tuck (by
   have h := nodeX_any 16 [(T, .slice ta T.kids.length tc)] ((w3.alloc (.cells #[.int .i64 T.kind, .int .i64 T.num, .slice ta T.kids.length tc] 34)).alloc (.cells #[.int .i64 T.kind, .int .i64 T.num, .slice ta T.kids.length tc] 34)) (w3.alloc (.cells #[.int .i64 T.kind, .int .i64 T.num, .slice ta T.kids.length tc] 34)).heap.size 1 34 #[.int .i64 T.kind, .int .i64 T.num, .slice ta T.kids.length tc] (fun i => i < w.heap.size + 1) (fun i hi => by have h1 := hb3.size; have h2 := hby.size; have h3 := hbx.size; omega) (by simp) (by simp) (heap_new _ _) (by simp [cellsL]) (fun x hx => by simp only [List.mem_singleton] at hx; subst hx; exact hx3)
   rw [show (w3.alloc (.cells #[.int .i64 T.kind, .int .i64 T.num, .slice ta T.kids.length tc] 34)).heap.size = w3.heap.size + 1 by simp] at h
   exact h)
  obtain ⟨y0, b0, b1, b2, -⟩ := (VarAt.new w3 T.kind T.num (.slice ta T.kids.length tc)).facts
  have HM := tuck hm
  clear hb3 hbx hby hs3 hm hx3 HREC
  go_wp2_with fail
  refine HNODE.out.mono ?_
  rintro e w6 ⟨hb6, xa, xc, rfl, hs6⟩
  obtain ⟨z1, r0, r1, r2, rf⟩ := (HV3.out.below hb6).facts
  have HB6 := tuck (bAfter HB3.out hb6)
  have HS6 := tuck (SlX.from hs6)
  clear hb6 hs6 HNODE
  go_wp2_with fail
  refine bodyPost_ret (v := .tuple #[.agg #[.int .i64 16, .int .i64 0, .slice xa 1 xc], .int .i64 nx]) (by simp [results, Tryz.results140, go_sem, *]) rfl (HP.out T nx _ 16 xa xc HKK.out ?_ ?_ HM.out)
  ·exact bSet3 HB6.out (Nat.le_refl _) _ _ _ _ _ _
  ·exact (SlIn.set3 HS6.out (Nat.lt_succ_self _)).mono (Nat.le_succ _)
 have g33 : ((s[a].toNat : Int) == 33) = false := by rw [beq_eq_false_iff_ne]; omega
 have g94 : ((s[a].toNat : Int) == 94) = false := by rw [beq_eq_false_iff_ne]; omega
 have g95 : ((s[a].toNat : Int) == 95) = false := by rw [beq_eq_false_iff_ne]; omega
 have HKK : Hid ((8 : Int) = preKind (byteAt s a)) := tuck (by rw [HK.out, if_neg h33, if_neg h94, if_neg h95])
 go_enter Tryz.func140, Tryz.ntmps140
 go_wp2_with fail
 generalize w.alloc (.cells #[.int .i64 0, .int .i64 0, .slice none 0 0] 34) = W1 at *
 refine (HREC.out _).mono ?_
 rintro e w3 ⟨hb3, T, ta, tc, nx, rfl, hs3, hm⟩
 have hbx := below1 w3 (.cells #[.int .i64 T.kind, .int .i64 T.num, .slice ta T.kids.length tc] 34)
 have hby := below1 (w3.alloc (.cells #[.int .i64 T.kind, .int .i64 T.num, .slice ta T.kids.length tc] 34)) (.cells #[.int .i64 T.kind, .int .i64 T.num, .slice ta T.kids.length tc] 34)
 have HV3 := tuck (((HV1.out.below hb3).below hbx).below hby)
 have HB3 := tuck (bAfter HB1.out (bAfter (bAfter hb3 hbx) hby))
 have hz1 : w.heap.size + 1 ≤ W1.heap.size := HV1.out.facts.1
 have hx3 : SlX ((w3.alloc (.cells #[.int .i64 T.kind, .int .i64 T.num, .slice ta T.kids.length tc] 34)).alloc (.cells #[.int .i64 T.kind, .int .i64 T.num, .slice ta T.kids.length tc] 34)) (fun i => i < w.heap.size + 1) T.kids (.slice ta T.kids.length tc) := SlX.of_sl ((hs3.below hbx).below hby) (fun i hi => Nat.lt_of_lt_of_le hi hz1)
 have HNODE : Hid (Calls Tryz.prog 86 #[.int .i64 8, .slice (some ⟨w3.heap.size + 1, 0, none⟩) 1 1] ((w3.alloc (.cells #[.int .i64 T.kind, .int .i64 T.num, .slice ta T.kids.length tc] 34)).alloc (.cells #[.int .i64 T.kind, .int .i64 T.num, .slice ta T.kids.length tc] 34)) fun e w' => Below ((w3.alloc (.cells #[.int .i64 T.kind, .int .i64 T.num, .slice ta T.kids.length tc] 34)).alloc (.cells #[.int .i64 T.kind, .int .i64 T.num, .slice ta T.kids.length tc] 34)).heap.size ((w3.alloc (.cells #[.int .i64 T.kind, .int .i64 T.num, .slice ta T.kids.length tc] 34)).alloc (.cells #[.int .i64 T.kind, .int .i64 T.num, .slice ta T.kids.length tc] 34)) w' ∧ ∃ (a : Option Addr) (c : Nat), e = .returned (.agg #[.int .i64 8, .int .i64 0, .slice a 1 c]) ∧ SlX w' (fun i => i < w.heap.size + 1) [T] (.slice a 1 c)) := tuck (by
  have h := nodeX_any 8 [(T, .slice ta T.kids.length tc)] ((w3.alloc (.cells #[.int .i64 T.kind, .int .i64 T.num, .slice ta T.kids.length tc] 34)).alloc (.cells #[.int .i64 T.kind, .int .i64 T.num, .slice ta T.kids.length tc] 34)) (w3.alloc (.cells #[.int .i64 T.kind, .int .i64 T.num, .slice ta T.kids.length tc] 34)).heap.size 1 34 #[.int .i64 T.kind, .int .i64 T.num, .slice ta T.kids.length tc] (fun i => i < w.heap.size + 1) (fun i hi => by have h1 := hb3.size; have h2 := hby.size; have h3 := hbx.size; omega) (by simp) (by simp) (heap_new _ _) (by simp [cellsL]) (fun x hx => by simp only [List.mem_singleton] at hx; subst hx; exact hx3)
  rw [show (w3.alloc (.cells #[.int .i64 T.kind, .int .i64 T.num, .slice ta T.kids.length tc] 34)).heap.size = w3.heap.size + 1 by simp] at h
  exact h)
 obtain ⟨y0, b0, b1, b2, -⟩ := (VarAt.new w3 T.kind T.num (.slice ta T.kids.length tc)).facts
 have HM := tuck hm
 clear hb3 hbx hby hs3 hm hx3 HREC
 go_wp2_with fail
 refine HNODE.out.mono ?_
 rintro e w6 ⟨hb6, xa, xc, rfl, hs6⟩
 obtain ⟨z1, r0, r1, r2, rf⟩ := (HV3.out.below hb6).facts
 have HB6 := tuck (bAfter HB3.out hb6)
 have HS6 := tuck (SlX.from hs6)
 clear hb6 hs6 HNODE
 go_wp2_with fail
 refine bodyPost_ret (v := .tuple #[.agg #[.int .i64 8, .int .i64 0, .slice xa 1 xc], .int .i64 nx]) (by simp [results, Tryz.results140, go_sem, *]) rfl (HP.out T nx _ 8 xa xc HKK.out ?_ ?_ HM.out)
 ·exact bSet3 HB6.out (Nat.le_refl _) _ _ _ _ _ _
 ·exact (SlIn.set3 HS6.out (Nat.lt_succ_self _)).mono (Nat.le_succ _)
end Go.Proofs.YtpddjebdncaceaaGreat
