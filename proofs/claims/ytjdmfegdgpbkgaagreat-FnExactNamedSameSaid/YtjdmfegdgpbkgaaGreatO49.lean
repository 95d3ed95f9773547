/-
  NsE.
-/
import Derived.Test.YtjdmfegdgpbkgaaGreatO25
import Derived.Test.YtjdmfegdgpbkgaaGreatO42
import Derived.Test.YtjdmfegdgpbkgaaGreatO45
namespace Go.Proofs.YtjdmfegdgpbkgaaGreat
open Go.RowKit
set_option linter.unusedVariables false
set_option maxRecDepth 100000 in
set_option maxHeartbeats 2000000 in
theorem n6_42 (s : ByteArray) (hs : s.size ≤ 1152921504606846976) (d : Nat) (hd : d + 1 ≤ 100) (B : Nat) (hB : B ≤ 1000) (ih : N6Ok s d (B + 1)) (nm : ByteArray) (a : Nat) (w : World) (hnm : nm.size ≤ B) (ha : a < s.size) (h42 : s[a].toNat = 42) : Calls Tryz.prog 47 #[.string s, .int .i64 a, .string nm, .int .i64 ((d + 1 : Nat) : Int)] w (PPost s w (npt s (d + 1) (bl nm nm.size) a)) := by
 obtain ⟨post, hpost⟩ : ∃ post : Ending → World → Prop, post = PPost s w (npt s (d + 1) (bl nm nm.size) a) := ⟨_, rfl⟩
 rw [← hpost]
 have HNO0 : Hid (npt s (d + 1) (bl nm nm.size) a = none → ∀ w', Below w.heap.size w w' → post (.returned (.tuple #[.agg #[.int .i64 0, .int .i64 0, .slice none 0 0], .int .i64 (-1)])) w') := tuck fun h w' hb => by rw [hpost, h]; exact PPost.zero hb
 have HB1 := tuck (below1 w (.cells #[.int .i64 0, .int .i64 0, .slice none 0 0] 25))
 have HV1 := tuck (VarAt.new w 0 0 (.slice none 0 0))
 have hdd : ((d + 1 : Nat) : Int) - 1 = (d : Int) := by omega
 have hds : (d : Int) + 1 - 1 = (d : Int) := by omega
 have hd1 : decide (((d + 1 : Nat) : Int) < 1) = false := decide_eq_false (by omega)
 have ha0 : decide ((a : Int) < 0) = false := decide_eq_false (by omega)
 have hai : (a : Int) < (s.size : Int) := by omega
 have hag : decide ((s.size : Int) ≤ (a : Int)) = false := decide_eq_false (by omega)
 have g42 : ((s[a].toNat : Int) == 42) = true := by rw [beq_iff_eq]; omega
 obtain ⟨o, ho⟩ : ∃ o : Option (Tm × Nat), o = pt s (d + 1) a := ⟨_, rfl⟩
 have hpt : npt s (d + 1) (bl nm nm.size) a = o := by rw [npt, if_pos ha, byteAt_eq ha, if_pos (by omega), ho]
 have HC : Hid (∀ W, Calls Tryz.prog 74 #[.string s, .int .i64 a, .int .i64 ((d + 1 : Nat) : Int)] W (PPost s W o)) := tuck fun W => by rw [ho]; exact parse_ok s hs (d + 1) hd a W
 have HYES : Hid (∀ (T : Tm) (a' : Option Addr) (c' : Nat) (nx : Int) (w' : World), Below w.heap.size w w' → SlIn w' w.heap.size T.kids (.slice a' T.kids.length c') → PNx s T nx o → post (.returned (.tuple #[.agg #[.int .i64 T.kind, .int .i64 T.num, .slice a' T.kids.length c'], .int .i64 nx])) w') := tuck fun T a' c' nx w' hb hs' hm => by
  rw [hpost, hpt]
  exact ⟨hb, T, a', c', nx, rfl, hs', by cases o <;> exact hm⟩
 clear hpost hpt ih ho HNO0
 go_enter Tryz.func47, Tryz.ntmps47
 go_wp2_with fail
 generalize w.alloc (.cells #[.int .i64 0, .int .i64 0, .slice none 0 0] 25) = W1 at *
 refine (HC.out _).mono ?_
 rintro e w3 ⟨hb3, T, ta, tc, nx, rfl, hs3, hm⟩
 have hzz := HV1.out.facts.1
 obtain ⟨z1, r0, r1, r2, rf⟩ := (HV1.out.below hb3).facts
 have HB3 := tuck (bAfter HB1.out hb3)
 have HS3 : Hid (SlIn w3 (w.heap.size + 1) T.kids (.slice ta T.kids.length tc)) := tuck (hs3.mono hzz)
 have HM : Hid (PNx s T nx o) := tuck hm
 clear hb3 hs3 hm hzz
 go_wp2_with fail
 refine bodyPost_ret (v := .tuple #[.agg #[.int .i64 T.kind, .int .i64 T.num, .slice ta T.kids.length tc], .int .i64 nx]) (by simp [results, Tryz.results47, go_sem, *]) rfl (HYES.out T ta tc nx _ ?_ ?_ HM.out)
 ·exact bSet3 HB3.out (Nat.le_refl _) _ _ _ _ _ _
 ·exact (SlIn.set3 HS3.out (Nat.lt_succ_self _)).mono (Nat.le_succ _)
set_option maxRecDepth 100000 in
set_option maxHeartbeats 2000000 in
theorem n6_78 (s : ByteArray) (hs : s.size ≤ 1152921504606846976) (d : Nat) (hd : d + 1 ≤ 100) (B : Nat) (hB : B ≤ 1000) (ih : N6Ok s d (B + 1)) (nm : ByteArray) (a : Nat) (w : World) (hnm : nm.size ≤ B) (ha : a < s.size) (h78 : s[a].toNat = 78) : Calls Tryz.prog 47 #[.string s, .int .i64 a, .string nm, .int .i64 ((d + 1 : Nat) : Int)] w (PPost s w (npt s (d + 1) (bl nm nm.size) a)) := by
 obtain ⟨post, hpost⟩ : ∃ post : Ending → World → Prop, post = PPost s w (npt s (d + 1) (bl nm nm.size) a) := ⟨_, rfl⟩
 rw [← hpost]
 have HNO0 : Hid (npt s (d + 1) (bl nm nm.size) a = none → ∀ w', Below w.heap.size w w' → post (.returned (.tuple #[.agg #[.int .i64 0, .int .i64 0, .slice none 0 0], .int .i64 (-1)])) w') := tuck fun h w' hb => by rw [hpost, h]; exact PPost.zero hb
 have HB1 := tuck (below1 w (.cells #[.int .i64 0, .int .i64 0, .slice none 0 0] 25))
 have HV1 := tuck (VarAt.new w 0 0 (.slice none 0 0))
 have hdd : ((d + 1 : Nat) : Int) - 1 = (d : Int) := by omega
 have hds : (d : Int) + 1 - 1 = (d : Int) := by omega
 have hd1 : decide (((d + 1 : Nat) : Int) < 1) = false := decide_eq_false (by omega)
 have ha0 : decide ((a : Int) < 0) = false := decide_eq_false (by omega)
 have hai : (a : Int) < (s.size : Int) := by omega
 have hag : decide ((s.size : Int) ≤ (a : Int)) = false := decide_eq_false (by omega)
 have g42 : ((s[a].toNat : Int) == 42) = false := by rw [beq_eq_false_iff_ne]; omega
 have g78 : ((s[a].toNat : Int) == 78) = true := by rw [beq_iff_eq]; omega
 obtain ⟨o, ho⟩ : ∃ o : Option (Tm × Nat), o = pt s (d + 1) a := ⟨_, rfl⟩
 have hpt : npt s (d + 1) (bl nm nm.size) a = o := by rw [npt, if_pos ha, byteAt_eq ha, if_pos (by omega), ho]
 have HC : Hid (∀ W, Calls Tryz.prog 74 #[.string s, .int .i64 a, .int .i64 ((d + 1 : Nat) : Int)] W (PPost s W o)) := tuck fun W => by rw [ho]; exact parse_ok s hs (d + 1) hd a W
 have HYES : Hid (∀ (T : Tm) (a' : Option Addr) (c' : Nat) (nx : Int) (w' : World), Below w.heap.size w w' → SlIn w' w.heap.size T.kids (.slice a' T.kids.length c') → PNx s T nx o → post (.returned (.tuple #[.agg #[.int .i64 T.kind, .int .i64 T.num, .slice a' T.kids.length c'], .int .i64 nx])) w') := tuck fun T a' c' nx w' hb hs' hm => by
  rw [hpost, hpt]
  exact ⟨hb, T, a', c', nx, rfl, hs', by cases o <;> exact hm⟩
 clear hpost hpt ih ho HNO0
 go_enter Tryz.func47, Tryz.ntmps47
 go_wp2_with fail
 generalize w.alloc (.cells #[.int .i64 0, .int .i64 0, .slice none 0 0] 25) = W1 at *
 refine (HC.out _).mono ?_
 rintro e w3 ⟨hb3, T, ta, tc, nx, rfl, hs3, hm⟩
 have hzz := HV1.out.facts.1
 obtain ⟨z1, r0, r1, r2, rf⟩ := (HV1.out.below hb3).facts
 have HB3 := tuck (bAfter HB1.out hb3)
 have HS3 : Hid (SlIn w3 (w.heap.size + 1) T.kids (.slice ta T.kids.length tc)) := tuck (hs3.mono hzz)
 have HM : Hid (PNx s T nx o) := tuck hm
 clear hb3 hs3 hm hzz
 go_wp2_with fail
 refine bodyPost_ret (v := .tuple #[.agg #[.int .i64 T.kind, .int .i64 T.num, .slice ta T.kids.length tc], .int .i64 nx]) (by simp [results, Tryz.results47, go_sem, *]) rfl (HYES.out T ta tc nx _ ?_ ?_ HM.out)
 ·exact bSet3 HB3.out (Nat.le_refl _) _ _ _ _ _ _
 ·exact (SlIn.set3 HS3.out (Nat.lt_succ_self _)).mono (Nat.le_succ _)
set_option maxRecDepth 100000 in
set_option maxHeartbeats 2000000 in
theorem n6_48 (s : ByteArray) (hs : s.size ≤ 1152921504606846976) (d : Nat) (hd : d + 1 ≤ 100) (B : Nat) (hB : B ≤ 1000) (ih : N6Ok s d (B + 1)) (nm : ByteArray) (a : Nat) (w : World) (hnm : nm.size ≤ B) (ha : a < s.size) (h48 : s[a].toNat = 48) : Calls Tryz.prog 47 #[.string s, .int .i64 a, .string nm, .int .i64 ((d + 1 : Nat) : Int)] w (PPost s w (npt s (d + 1) (bl nm nm.size) a)) := by
 obtain ⟨post, hpost⟩ : ∃ post : Ending → World → Prop, post = PPost s w (npt s (d + 1) (bl nm nm.size) a) := ⟨_, rfl⟩
 rw [← hpost]
 have HNO0 : Hid (npt s (d + 1) (bl nm nm.size) a = none → ∀ w', Below w.heap.size w w' → post (.returned (.tuple #[.agg #[.int .i64 0, .int .i64 0, .slice none 0 0], .int .i64 (-1)])) w') := tuck fun h w' hb => by rw [hpost, h]; exact PPost.zero hb
 have HB1 := tuck (below1 w (.cells #[.int .i64 0, .int .i64 0, .slice none 0 0] 25))
 have HV1 := tuck (VarAt.new w 0 0 (.slice none 0 0))
 have hdd : ((d + 1 : Nat) : Int) - 1 = (d : Int) := by omega
 have hds : (d : Int) + 1 - 1 = (d : Int) := by omega
 have hd1 : decide (((d + 1 : Nat) : Int) < 1) = false := decide_eq_false (by omega)
 have ha0 : decide ((a : Int) < 0) = false := decide_eq_false (by omega)
 have hai : (a : Int) < (s.size : Int) := by omega
 have hag : decide ((s.size : Int) ≤ (a : Int)) = false := decide_eq_false (by omega)
 have g42 : ((s[a].toNat : Int) == 42) = false := by rw [beq_eq_false_iff_ne]; omega
 have g78 : ((s[a].toNat : Int) == 78) = false := by rw [beq_eq_false_iff_ne]; omega
 have g48 : ((s[a].toNat : Int) == 48) = true := by rw [beq_iff_eq]; omega
 obtain ⟨o, ho⟩ : ∃ o : Option (Tm × Nat), o = pt s (d + 1) a := ⟨_, rfl⟩
 have hpt : npt s (d + 1) (bl nm nm.size) a = o := by rw [npt, if_pos ha, byteAt_eq ha, if_pos (by omega), ho]
 have HC : Hid (∀ W, Calls Tryz.prog 74 #[.string s, .int .i64 a, .int .i64 ((d + 1 : Nat) : Int)] W (PPost s W o)) := tuck fun W => by rw [ho]; exact parse_ok s hs (d + 1) hd a W
 have HYES : Hid (∀ (T : Tm) (a' : Option Addr) (c' : Nat) (nx : Int) (w' : World), Below w.heap.size w w' → SlIn w' w.heap.size T.kids (.slice a' T.kids.length c') → PNx s T nx o → post (.returned (.tuple #[.agg #[.int .i64 T.kind, .int .i64 T.num, .slice a' T.kids.length c'], .int .i64 nx])) w') := tuck fun T a' c' nx w' hb hs' hm => by
  rw [hpost, hpt]
  exact ⟨hb, T, a', c', nx, rfl, hs', by cases o <;> exact hm⟩
 clear hpost hpt ih ho HNO0
 go_enter Tryz.func47, Tryz.ntmps47
 go_wp2_with fail
 generalize w.alloc (.cells #[.int .i64 0, .int .i64 0, .slice none 0 0] 25) = W1 at *
 refine (HC.out _).mono ?_
 rintro e w3 ⟨hb3, T, ta, tc, nx, rfl, hs3, hm⟩
 have hzz := HV1.out.facts.1
 obtain ⟨z1, r0, r1, r2, rf⟩ := (HV1.out.below hb3).facts
 have HB3 := tuck (bAfter HB1.out hb3)
 have HS3 : Hid (SlIn w3 (w.heap.size + 1) T.kids (.slice ta T.kids.length tc)) := tuck (hs3.mono hzz)
 have HM : Hid (PNx s T nx o) := tuck hm
 clear hb3 hs3 hm hzz
 go_wp2_with fail
 refine bodyPost_ret (v := .tuple #[.agg #[.int .i64 T.kind, .int .i64 T.num, .slice ta T.kids.length tc], .int .i64 nx]) (by simp [results, Tryz.results47, go_sem, *]) rfl (HYES.out T ta tc nx _ ?_ ?_ HM.out)
 ·exact bSet3 HB3.out (Nat.le_refl _) _ _ _ _ _ _
 ·exact (SlIn.set3 HS3.out (Nat.lt_succ_self _)).mono (Nat.le_succ _)
set_option maxRecDepth 100000 in
set_option maxHeartbeats 2000000 in
theorem n6_43 (s : ByteArray) (hs : s.size ≤ 1152921504606846976) (d : Nat) (hd : d + 1 ≤ 100) (B : Nat) (hB : B ≤ 1000) (ih : N6Ok s d (B + 1)) (nm : ByteArray) (a : Nat) (w : World) (hnm : nm.size ≤ B) (ha : a < s.size) (h43 : s[a].toNat = 43) : Calls Tryz.prog 47 #[.string s, .int .i64 a, .string nm, .int .i64 ((d + 1 : Nat) : Int)] w (PPost s w (npt s (d + 1) (bl nm nm.size) a)) := by
 obtain ⟨post, hpost⟩ : ∃ post : Ending → World → Prop, post = PPost s w (npt s (d + 1) (bl nm nm.size) a) := ⟨_, rfl⟩
 rw [← hpost]
 have HNO0 : Hid (npt s (d + 1) (bl nm nm.size) a = none → ∀ w', Below w.heap.size w w' → post (.returned (.tuple #[.agg #[.int .i64 0, .int .i64 0, .slice none 0 0], .int .i64 (-1)])) w') := tuck fun h w' hb => by rw [hpost, h]; exact PPost.zero hb
 have HB1 := tuck (below1 w (.cells #[.int .i64 0, .int .i64 0, .slice none 0 0] 25))
 have HV1 := tuck (VarAt.new w 0 0 (.slice none 0 0))
 have hdd : ((d + 1 : Nat) : Int) - 1 = (d : Int) := by omega
 have hds : (d : Int) + 1 - 1 = (d : Int) := by omega
 have hd1 : decide (((d + 1 : Nat) : Int) < 1) = false := decide_eq_false (by omega)
 have ha0 : decide ((a : Int) < 0) = false := decide_eq_false (by omega)
 have hai : (a : Int) < (s.size : Int) := by omega
 have hag : decide ((s.size : Int) ≤ (a : Int)) = false := decide_eq_false (by omega)
 have g42 : ((s[a].toNat : Int) == 42) = false := by rw [beq_eq_false_iff_ne]; omega
 have g78 : ((s[a].toNat : Int) == 78) = false := by rw [beq_eq_false_iff_ne]; omega
 have g48 : ((s[a].toNat : Int) == 48) = false := by rw [beq_eq_false_iff_ne]; omega
 have g43 : ((s[a].toNat : Int) == 43) = true := by rw [beq_iff_eq]; omega
 have g33 : ((s[a].toNat : Int) == 33) = false := by rw [beq_eq_false_iff_ne]; omega
 have g94 : ((s[a].toNat : Int) == 94) = false := by rw [beq_eq_false_iff_ne]; omega
 have g95 : ((s[a].toNat : Int) == 95) = false := by rw [beq_eq_false_iff_ne]; omega
 obtain ⟨o, ho⟩ : ∃ o : Option (Tm × Nat), o = npt s d (bl nm nm.size) (a + 1) := ⟨_, rfl⟩
 have hpt : npt s (d + 1) (bl nm nm.size) a = o.map fun x => (.mk 8 0 [x.1], x.2) := by rw [npt, if_pos ha, byteAt_eq ha, if_neg (by omega), if_pos (by omega), h43, ho]; rfl
 have HREC : Hid (∀ W, Calls Tryz.prog 47 #[.string s, .int .i64 ((a : Int) + 1), .string nm, .int .i64 d] W (PPost s W o)) := tuck fun W => by
  have := ih nm (a + 1) W (by omega)
  rw [ho]
  rwa [show ((a + 1 : Nat) : Int) = (a : Int) + 1 by omega] at this
 have HP : Hid (∀ (T : Tm) (nx : Int) (w' : World) (a' : Option Addr) (c' : Nat), Below w.heap.size w w' → SlIn w' w.heap.size [T] (.slice a' 1 c') → PNx s T nx o → post (.returned (.tuple #[.agg #[.int .i64 8, .int .i64 0, .slice a' 1 c'], .int .i64 nx])) w') := tuck fun T nx w' a' c' hb hs' hm => by
  rw [hpost, hpt]
  refine ⟨hb, .mk 8 0 [T], a', c', nx, rfl, hs', ?_⟩
  cases o with
  | none => exact hm
  | some x => exact ⟨by rw [hm.1], hm.2⟩
 clear hpost hpt ho ih HNO0
 go_enter Tryz.func47, Tryz.ntmps47
 go_wp2_with fail
 generalize w.alloc (.cells #[.int .i64 0, .int .i64 0, .slice none 0 0] 25) = W1 at *
 refine (HREC.out _).mono ?_
 rintro e w3 ⟨hb3, T, ta, tc, nx, rfl, hs3, hm⟩
 have hbx := below1 w3 (.cells #[.int .i64 T.kind, .int .i64 T.num, .slice ta T.kids.length tc] 25)
 have hby := below1 (w3.alloc (.cells #[.int .i64 T.kind, .int .i64 T.num, .slice ta T.kids.length tc] 25)) (.cells #[.int .i64 T.kind, .int .i64 T.num, .slice ta T.kids.length tc] 25)
 have HV3 := tuck (((HV1.out.below hb3).below hbx).below hby)
 have HB3 := tuck (bAfter HB1.out (bAfter (bAfter hb3 hbx) hby))
 have hz1 : w.heap.size + 1 ≤ W1.heap.size := HV1.out.facts.1
 have hx3 : SlX ((w3.alloc (.cells #[.int .i64 T.kind, .int .i64 T.num, .slice ta T.kids.length tc] 25)).alloc (.cells #[.int .i64 T.kind, .int .i64 T.num, .slice ta T.kids.length tc] 25)) (fun i => i < w.heap.size + 1) T.kids (.slice ta T.kids.length tc) := SlX.of_sl ((hs3.below hbx).below hby) (fun i hi => Nat.lt_of_lt_of_le hi hz1)
 have HNODE : Hid (Calls Tryz.prog 55 #[.int .i64 8, .slice (some ⟨w3.heap.size + 1, 0, none⟩) 1 1] ((w3.alloc (.cells #[.int .i64 T.kind, .int .i64 T.num, .slice ta T.kids.length tc] 25)).alloc (.cells #[.int .i64 T.kind, .int .i64 T.num, .slice ta T.kids.length tc] 25)) fun e w' => Below ((w3.alloc (.cells #[.int .i64 T.kind, .int .i64 T.num, .slice ta T.kids.length tc] 25)).alloc (.cells #[.int .i64 T.kind, .int .i64 T.num, .slice ta T.kids.length tc] 25)).heap.size ((w3.alloc (.cells #[.int .i64 T.kind, .int .i64 T.num, .slice ta T.kids.length tc] 25)).alloc (.cells #[.int .i64 T.kind, .int .i64 T.num, .slice ta T.kids.length tc] 25)) w' ∧ ∃ (a : Option Addr) (c : Nat), e = .returned (.agg #[.int .i64 8, .int .i64 0, .slice a 1 c]) ∧ SlX w' (fun i => i < w.heap.size + 1) [T] (.slice a 1 c)) := tuck (by
  have h := nodeX_any 8 [(T, .slice ta T.kids.length tc)] ((w3.alloc (.cells #[.int .i64 T.kind, .int .i64 T.num, .slice ta T.kids.length tc] 25)).alloc (.cells #[.int .i64 T.kind, .int .i64 T.num, .slice ta T.kids.length tc] 25)) (w3.alloc (.cells #[.int .i64 T.kind, .int .i64 T.num, .slice ta T.kids.length tc] 25)).heap.size 1 25 #[.int .i64 T.kind, .int .i64 T.num, .slice ta T.kids.length tc] (fun i => i < w.heap.size + 1) (fun i hi => by have h1 := hb3.size; have h2 := hby.size; have h3 := hbx.size; omega) (by simp) (by simp) (heap_new _ _) (by simp [cellsL]) (fun x hx => by simp only [List.mem_singleton] at hx; subst hx; exact hx3)
  rw [show (w3.alloc (.cells #[.int .i64 T.kind, .int .i64 T.num, .slice ta T.kids.length tc] 25)).heap.size = w3.heap.size + 1 by simp] at h
  exact h)
 obtain ⟨y0, b0, b1, b2, -⟩ := (VarAt.new w3 T.kind T.num (.slice ta T.kids.length tc)).facts
 have HM : Hid (PNx s T nx o) := tuck hm
 clear hb3 hbx hby hs3 hm hx3 HREC
 go_wp2_with fail
 refine HNODE.out.mono ?_
 rintro e w6 ⟨hb6, xa, xc, rfl, hs6⟩
 obtain ⟨z1, r0, r1, r2, rf⟩ := (HV3.out.below hb6).facts
 have HB6 := tuck (bAfter HB3.out hb6)
 have HS6 := tuck (SlX.from hs6)
 clear hb6 hs6 HNODE
 go_wp2_with fail
 refine bodyPost_ret (v := .tuple #[.agg #[.int .i64 8, .int .i64 0, .slice xa 1 xc], .int .i64 nx]) (by simp [results, Tryz.results47, go_sem, *]) rfl (HP.out T nx _ xa xc ?_ ?_ HM.out)
 ·exact bSet3 HB6.out (Nat.le_refl _) _ _ _ _ _ _
 ·exact (SlIn.set3 HS6.out (Nat.lt_succ_self _)).mono (Nat.le_succ _)
set_option maxRecDepth 100000 in
set_option maxHeartbeats 2000000 in
theorem n6_33 (s : ByteArray) (hs : s.size ≤ 1152921504606846976) (d : Nat) (hd : d + 1 ≤ 100) (B : Nat) (hB : B ≤ 1000) (ih : N6Ok s d (B + 1)) (nm : ByteArray) (a : Nat) (w : World) (hnm : nm.size ≤ B) (ha : a < s.size) (h33 : s[a].toNat = 33) : Calls Tryz.prog 47 #[.string s, .int .i64 a, .string nm, .int .i64 ((d + 1 : Nat) : Int)] w (PPost s w (npt s (d + 1) (bl nm nm.size) a)) := by
 obtain ⟨post, hpost⟩ : ∃ post : Ending → World → Prop, post = PPost s w (npt s (d + 1) (bl nm nm.size) a) := ⟨_, rfl⟩
 rw [← hpost]
 have HNO0 : Hid (npt s (d + 1) (bl nm nm.size) a = none → ∀ w', Below w.heap.size w w' → post (.returned (.tuple #[.agg #[.int .i64 0, .int .i64 0, .slice none 0 0], .int .i64 (-1)])) w') := tuck fun h w' hb => by rw [hpost, h]; exact PPost.zero hb
 have HB1 := tuck (below1 w (.cells #[.int .i64 0, .int .i64 0, .slice none 0 0] 25))
 have HV1 := tuck (VarAt.new w 0 0 (.slice none 0 0))
 have hdd : ((d + 1 : Nat) : Int) - 1 = (d : Int) := by omega
 have hds : (d : Int) + 1 - 1 = (d : Int) := by omega
 have hd1 : decide (((d + 1 : Nat) : Int) < 1) = false := decide_eq_false (by omega)
 have ha0 : decide ((a : Int) < 0) = false := decide_eq_false (by omega)
 have hai : (a : Int) < (s.size : Int) := by omega
 have hag : decide ((s.size : Int) ≤ (a : Int)) = false := decide_eq_false (by omega)
 have g42 : ((s[a].toNat : Int) == 42) = false := by rw [beq_eq_false_iff_ne]; omega
 have g78 : ((s[a].toNat : Int) == 78) = false := by rw [beq_eq_false_iff_ne]; omega
 have g48 : ((s[a].toNat : Int) == 48) = false := by rw [beq_eq_false_iff_ne]; omega
 have g43 : ((s[a].toNat : Int) == 43) = false := by rw [beq_eq_false_iff_ne]; omega
 have g33 : ((s[a].toNat : Int) == 33) = true := by rw [beq_iff_eq]; omega
 obtain ⟨o, ho⟩ : ∃ o : Option (Tm × Nat), o = npt s d (bl nm nm.size) (a + 1) := ⟨_, rfl⟩
 have hpt : npt s (d + 1) (bl nm nm.size) a = o.map fun x => (.mk 11 0 [x.1], x.2) := by rw [npt, if_pos ha, byteAt_eq ha, if_neg (by omega), if_pos (by omega), h33, ho]; rfl
 have HREC : Hid (∀ W, Calls Tryz.prog 47 #[.string s, .int .i64 ((a : Int) + 1), .string nm, .int .i64 d] W (PPost s W o)) := tuck fun W => by
  have := ih nm (a + 1) W (by omega)
  rw [ho]
  rwa [show ((a + 1 : Nat) : Int) = (a : Int) + 1 by omega] at this
 have HP : Hid (∀ (T : Tm) (nx : Int) (w' : World) (a' : Option Addr) (c' : Nat), Below w.heap.size w w' → SlIn w' w.heap.size [T] (.slice a' 1 c') → PNx s T nx o → post (.returned (.tuple #[.agg #[.int .i64 11, .int .i64 0, .slice a' 1 c'], .int .i64 nx])) w') := tuck fun T nx w' a' c' hb hs' hm => by
  rw [hpost, hpt]
  refine ⟨hb, .mk 11 0 [T], a', c', nx, rfl, hs', ?_⟩
  cases o with
  | none => exact hm
  | some x => exact ⟨by rw [hm.1], hm.2⟩
 clear hpost hpt ho ih HNO0
 go_enter Tryz.func47, Tryz.ntmps47
 go_wp2_with fail
 generalize w.alloc (.cells #[.int .i64 0, .int .i64 0, .slice none 0 0] 25) = W1 at *
 refine (HREC.out _).mono ?_
 rintro e w3 ⟨hb3, T, ta, tc, nx, rfl, hs3, hm⟩
 have hbx := below1 w3 (.cells #[.int .i64 T.kind, .int .i64 T.num, .slice ta T.kids.length tc] 25)
 have hby := below1 (w3.alloc (.cells #[.int .i64 T.kind, .int .i64 T.num, .slice ta T.kids.length tc] 25)) (.cells #[.int .i64 T.kind, .int .i64 T.num, .slice ta T.kids.length tc] 25)
 have HV3 := tuck (((HV1.out.below hb3).below hbx).below hby)
 have HB3 := tuck (bAfter HB1.out (bAfter (bAfter hb3 hbx) hby))
 have hz1 : w.heap.size + 1 ≤ W1.heap.size := HV1.out.facts.1
 have hx3 : SlX ((w3.alloc (.cells #[.int .i64 T.kind, .int .i64 T.num, .slice ta T.kids.length tc] 25)).alloc (.cells #[.int .i64 T.kind, .int .i64 T.num, .slice ta T.kids.length tc] 25)) (fun i => i < w.heap.size + 1) T.kids (.slice ta T.kids.length tc) := SlX.of_sl ((hs3.below hbx).below hby) (fun i hi => Nat.lt_of_lt_of_le hi hz1)
 have HNODE : Hid (Calls Tryz.prog 55 #[.int .i64 11, .slice (some ⟨w3.heap.size + 1, 0, none⟩) 1 1] ((w3.alloc (.cells #[.int .i64 T.kind, .int .i64 T.num, .slice ta T.kids.length tc] 25)).alloc (.cells #[.int .i64 T.kind, .int .i64 T.num, .slice ta T.kids.length tc] 25)) fun e w' => Below ((w3.alloc (.cells #[.int .i64 T.kind, .int .i64 T.num, .slice ta T.kids.length tc] 25)).alloc (.cells #[.int .i64 T.kind, .int .i64 T.num, .slice ta T.kids.length tc] 25)).heap.size ((w3.alloc (.cells #[.int .i64 T.kind, .int .i64 T.num, .slice ta T.kids.length tc] 25)).alloc (.cells #[.int .i64 T.kind, .int .i64 T.num, .slice ta T.kids.length tc] 25)) w' ∧ ∃ (a : Option Addr) (c : Nat), e = .returned (.agg #[.int .i64 11, .int .i64 0, .slice a 1 c]) ∧ SlX w' (fun i => i < w.heap.size + 1) [T] (.slice a 1 c)) := tuck (by
  have h := nodeX_any 11 [(T, .slice ta T.kids.length tc)] ((w3.alloc (.cells #[.int .i64 T.kind, .int .i64 T.num, .slice ta T.kids.length tc] 25)).alloc (.cells #[.int .i64 T.kind, .int .i64 T.num, .slice ta T.kids.length tc] 25)) (w3.alloc (.cells #[.int .i64 T.kind, .int .i64 T.num, .slice ta T.kids.length tc] 25)).heap.size 1 25 #[.int .i64 T.kind, .int .i64 T.num, .slice ta T.kids.length tc] (fun i => i < w.heap.size + 1) (fun i hi => by have h1 := hb3.size; have h2 := hby.size; have h3 := hbx.size; omega) (by simp) (by simp) (heap_new _ _) (by simp [cellsL]) (fun x hx => by simp only [List.mem_singleton] at hx; subst hx; exact hx3)
  rw [show (w3.alloc (.cells #[.int .i64 T.kind, .int .i64 T.num, .slice ta T.kids.length tc] 25)).heap.size = w3.heap.size + 1 by simp] at h
  exact h)
 obtain ⟨y0, b0, b1, b2, -⟩ := (VarAt.new w3 T.kind T.num (.slice ta T.kids.length tc)).facts
 have HM : Hid (PNx s T nx o) := tuck hm
 clear hb3 hbx hby hs3 hm hx3 HREC
 go_wp2_with fail
 refine HNODE.out.mono ?_
 rintro e w6 ⟨hb6, xa, xc, rfl, hs6⟩
 obtain ⟨z1, r0, r1, r2, rf⟩ := (HV3.out.below hb6).facts
 have HB6 := tuck (bAfter HB3.out hb6)
 have HS6 := tuck (SlX.from hs6)
 clear hb6 hs6 HNODE
 go_wp2_with fail
 refine bodyPost_ret (v := .tuple #[.agg #[.int .i64 11, .int .i64 0, .slice xa 1 xc], .int .i64 nx]) (by simp [results, Tryz.results47, go_sem, *]) rfl (HP.out T nx _ xa xc ?_ ?_ HM.out)
 ·exact bSet3 HB6.out (Nat.le_refl _) _ _ _ _ _ _
 ·exact (SlIn.set3 HS6.out (Nat.lt_succ_self _)).mono (Nat.le_succ _)
set_option maxRecDepth 100000 in
set_option maxHeartbeats 2000000 in
theorem n6_94 (s : ByteArray) (hs : s.size ≤ 1152921504606846976) (d : Nat) (hd : d + 1 ≤ 100) (B : Nat) (hB : B ≤ 1000) (ih : N6Ok s d (B + 1)) (nm : ByteArray) (a : Nat) (w : World) (hnm : nm.size ≤ B) (ha : a < s.size) (h94 : s[a].toNat = 94) : Calls Tryz.prog 47 #[.string s, .int .i64 a, .string nm, .int .i64 ((d + 1 : Nat) : Int)] w (PPost s w (npt s (d + 1) (bl nm nm.size) a)) := by
 obtain ⟨post, hpost⟩ : ∃ post : Ending → World → Prop, post = PPost s w (npt s (d + 1) (bl nm nm.size) a) := ⟨_, rfl⟩
 rw [← hpost]
 have HNO0 : Hid (npt s (d + 1) (bl nm nm.size) a = none → ∀ w', Below w.heap.size w w' → post (.returned (.tuple #[.agg #[.int .i64 0, .int .i64 0, .slice none 0 0], .int .i64 (-1)])) w') := tuck fun h w' hb => by rw [hpost, h]; exact PPost.zero hb
 have HB1 := tuck (below1 w (.cells #[.int .i64 0, .int .i64 0, .slice none 0 0] 25))
 have HV1 := tuck (VarAt.new w 0 0 (.slice none 0 0))
 have hdd : ((d + 1 : Nat) : Int) - 1 = (d : Int) := by omega
 have hds : (d : Int) + 1 - 1 = (d : Int) := by omega
 have hd1 : decide (((d + 1 : Nat) : Int) < 1) = false := decide_eq_false (by omega)
 have ha0 : decide ((a : Int) < 0) = false := decide_eq_false (by omega)
 have hai : (a : Int) < (s.size : Int) := by omega
 have hag : decide ((s.size : Int) ≤ (a : Int)) = false := decide_eq_false (by omega)
 have g42 : ((s[a].toNat : Int) == 42) = false := by rw [beq_eq_false_iff_ne]; omega
 have g78 : ((s[a].toNat : Int) == 78) = false := by rw [beq_eq_false_iff_ne]; omega
 have g48 : ((s[a].toNat : Int) == 48) = false := by rw [beq_eq_false_iff_ne]; omega
 have g43 : ((s[a].toNat : Int) == 43) = false := by rw [beq_eq_false_iff_ne]; omega
 have g33 : ((s[a].toNat : Int) == 33) = false := by rw [beq_eq_false_iff_ne]; omega
 have g94 : ((s[a].toNat : Int) == 94) = true := by rw [beq_iff_eq]; omega
 obtain ⟨o, ho⟩ : ∃ o : Option (Tm × Nat), o = npt s d (bl nm nm.size) (a + 1) := ⟨_, rfl⟩
 have hpt : npt s (d + 1) (bl nm nm.size) a = o.map fun x => (.mk 15 0 [x.1], x.2) := by rw [npt, if_pos ha, byteAt_eq ha, if_neg (by omega), if_pos (by omega), h94, ho]; rfl
 have HREC : Hid (∀ W, Calls Tryz.prog 47 #[.string s, .int .i64 ((a : Int) + 1), .string nm, .int .i64 d] W (PPost s W o)) := tuck fun W => by
  have := ih nm (a + 1) W (by omega)
  rw [ho]
  rwa [show ((a + 1 : Nat) : Int) = (a : Int) + 1 by omega] at this
 have HP : Hid (∀ (T : Tm) (nx : Int) (w' : World) (a' : Option Addr) (c' : Nat), Below w.heap.size w w' → SlIn w' w.heap.size [T] (.slice a' 1 c') → PNx s T nx o → post (.returned (.tuple #[.agg #[.int .i64 15, .int .i64 0, .slice a' 1 c'], .int .i64 nx])) w') := tuck fun T nx w' a' c' hb hs' hm => by
  rw [hpost, hpt]
  refine ⟨hb, .mk 15 0 [T], a', c', nx, rfl, hs', ?_⟩
  cases o with
  | none => exact hm
  | some x => exact ⟨by rw [hm.1], hm.2⟩
 clear hpost hpt ho ih HNO0
 go_enter Tryz.func47, Tryz.ntmps47
 go_wp2_with fail
 generalize w.alloc (.cells #[.int .i64 0, .int .i64 0, .slice none 0 0] 25) = W1 at *
 refine (HREC.out _).mono ?_
 rintro e w3 ⟨hb3, T, ta, tc, nx, rfl, hs3, hm⟩
 have hbx := below1 w3 (.cells #[.int .i64 T.kind, .int .i64 T.num, .slice ta T.kids.length tc] 25)
 have hby := below1 (w3.alloc (.cells #[.int .i64 T.kind, .int .i64 T.num, .slice ta T.kids.length tc] 25)) (.cells #[.int .i64 T.kind, .int .i64 T.num, .slice ta T.kids.length tc] 25)
 have HV3 := tuck (((HV1.out.below hb3).below hbx).below hby)
 have HB3 := tuck (bAfter HB1.out (bAfter (bAfter hb3 hbx) hby))
 have hz1 : w.heap.size + 1 ≤ W1.heap.size := HV1.out.facts.1
 have hx3 : SlX ((w3.alloc (.cells #[.int .i64 T.kind, .int .i64 T.num, .slice ta T.kids.length tc] 25)).alloc (.cells #[.int .i64 T.kind, .int .i64 T.num, .slice ta T.kids.length tc] 25)) (fun i => i < w.heap.size + 1) T.kids (.slice ta T.kids.length tc) := SlX.of_sl ((hs3.below hbx).below hby) (fun i hi => Nat.lt_of_lt_of_le hi hz1)
 have HNODE : Hid (Calls Tryz.prog 55 #[.int .i64 15, .slice (some ⟨w3.heap.size + 1, 0, none⟩) 1 1] ((w3.alloc (.cells #[.int .i64 T.kind, .int .i64 T.num, .slice ta T.kids.length tc] 25)).alloc (.cells #[.int .i64 T.kind, .int .i64 T.num, .slice ta T.kids.length tc] 25)) fun e w' => Below ((w3.alloc (.cells #[.int .i64 T.kind, .int .i64 T.num, .slice ta T.kids.length tc] 25)).alloc (.cells #[.int .i64 T.kind, .int .i64 T.num, .slice ta T.kids.length tc] 25)).heap.size ((w3.alloc (.cells #[.int .i64 T.kind, .int .i64 T.num, .slice ta T.kids.length tc] 25)).alloc (.cells #[.int .i64 T.kind, .int .i64 T.num, .slice ta T.kids.length tc] 25)) w' ∧ ∃ (a : Option Addr) (c : Nat), e = .returned (.agg #[.int .i64 15, .int .i64 0, .slice a 1 c]) ∧ SlX w' (fun i => i < w.heap.size + 1) [T] (.slice a 1 c)) := tuck (by
  have h := nodeX_any 15 [(T, .slice ta T.kids.length tc)] ((w3.alloc (.cells #[.int .i64 T.kind, .int .i64 T.num, .slice ta T.kids.length tc] 25)).alloc (.cells #[.int .i64 T.kind, .int .i64 T.num, .slice ta T.kids.length tc] 25)) (w3.alloc (.cells #[.int .i64 T.kind, .int .i64 T.num, .slice ta T.kids.length tc] 25)).heap.size 1 25 #[.int .i64 T.kind, .int .i64 T.num, .slice ta T.kids.length tc] (fun i => i < w.heap.size + 1) (fun i hi => by have h1 := hb3.size; have h2 := hby.size; have h3 := hbx.size; omega) (by simp) (by simp) (heap_new _ _) (by simp [cellsL]) (fun x hx => by simp only [List.mem_singleton] at hx; subst hx; exact hx3)
  rw [show (w3.alloc (.cells #[.int .i64 T.kind, .int .i64 T.num, .slice ta T.kids.length tc] 25)).heap.size = w3.heap.size + 1 by simp] at h
  exact h)
 obtain ⟨y0, b0, b1, b2, -⟩ := (VarAt.new w3 T.kind T.num (.slice ta T.kids.length tc)).facts
 have HM : Hid (PNx s T nx o) := tuck hm
 clear hb3 hbx hby hs3 hm hx3 HREC
 go_wp2_with fail
 refine HNODE.out.mono ?_
 rintro e w6 ⟨hb6, xa, xc, rfl, hs6⟩
 obtain ⟨z1, r0, r1, r2, rf⟩ := (HV3.out.below hb6).facts
 have HB6 := tuck (bAfter HB3.out hb6)
 have HS6 := tuck (SlX.from hs6)
 clear hb6 hs6 HNODE
 go_wp2_with fail
 refine bodyPost_ret (v := .tuple #[.agg #[.int .i64 15, .int .i64 0, .slice xa 1 xc], .int .i64 nx]) (by simp [results, Tryz.results47, go_sem, *]) rfl (HP.out T nx _ xa xc ?_ ?_ HM.out)
 ·exact bSet3 HB6.out (Nat.le_refl _) _ _ _ _ _ _
 ·exact (SlIn.set3 HS6.out (Nat.lt_succ_self _)).mono (Nat.le_succ _)
set_option maxRecDepth 100000 in
set_option maxHeartbeats 2000000 in
theorem n6_95 (s : ByteArray) (hs : s.size ≤ 1152921504606846976) (d : Nat) (hd : d + 1 ≤ 100) (B : Nat) (hB : B ≤ 1000) (ih : N6Ok s d (B + 1)) (nm : ByteArray) (a : Nat) (w : World) (hnm : nm.size ≤ B) (ha : a < s.size) (h95 : s[a].toNat = 95) : Calls Tryz.prog 47 #[.string s, .int .i64 a, .string nm, .int .i64 ((d + 1 : Nat) : Int)] w (PPost s w (npt s (d + 1) (bl nm nm.size) a)) := by
 obtain ⟨post, hpost⟩ : ∃ post : Ending → World → Prop, post = PPost s w (npt s (d + 1) (bl nm nm.size) a) := ⟨_, rfl⟩
 rw [← hpost]
 have HNO0 : Hid (npt s (d + 1) (bl nm nm.size) a = none → ∀ w', Below w.heap.size w w' → post (.returned (.tuple #[.agg #[.int .i64 0, .int .i64 0, .slice none 0 0], .int .i64 (-1)])) w') := tuck fun h w' hb => by rw [hpost, h]; exact PPost.zero hb
 have HB1 := tuck (below1 w (.cells #[.int .i64 0, .int .i64 0, .slice none 0 0] 25))
 have HV1 := tuck (VarAt.new w 0 0 (.slice none 0 0))
 have hdd : ((d + 1 : Nat) : Int) - 1 = (d : Int) := by omega
 have hds : (d : Int) + 1 - 1 = (d : Int) := by omega
 have hd1 : decide (((d + 1 : Nat) : Int) < 1) = false := decide_eq_false (by omega)
 have ha0 : decide ((a : Int) < 0) = false := decide_eq_false (by omega)
 have hai : (a : Int) < (s.size : Int) := by omega
 have hag : decide ((s.size : Int) ≤ (a : Int)) = false := decide_eq_false (by omega)
 have g42 : ((s[a].toNat : Int) == 42) = false := by rw [beq_eq_false_iff_ne]; omega
 have g78 : ((s[a].toNat : Int) == 78) = false := by rw [beq_eq_false_iff_ne]; omega
 have g48 : ((s[a].toNat : Int) == 48) = false := by rw [beq_eq_false_iff_ne]; omega
 have g43 : ((s[a].toNat : Int) == 43) = false := by rw [beq_eq_false_iff_ne]; omega
 have g33 : ((s[a].toNat : Int) == 33) = false := by rw [beq_eq_false_iff_ne]; omega
 have g94 : ((s[a].toNat : Int) == 94) = false := by rw [beq_eq_false_iff_ne]; omega
 have g95 : ((s[a].toNat : Int) == 95) = true := by rw [beq_iff_eq]; omega
 obtain ⟨o, ho⟩ : ∃ o : Option (Tm × Nat), o = npt s d (bl nm nm.size) (a + 1) := ⟨_, rfl⟩
 have hpt : npt s (d + 1) (bl nm nm.size) a = o.map fun x => (.mk 16 0 [x.1], x.2) := by rw [npt, if_pos ha, byteAt_eq ha, if_neg (by omega), if_pos (by omega), h95, ho]; rfl
 have HREC : Hid (∀ W, Calls Tryz.prog 47 #[.string s, .int .i64 ((a : Int) + 1), .string nm, .int .i64 d] W (PPost s W o)) := tuck fun W => by
  have := ih nm (a + 1) W (by omega)
  rw [ho]
  rwa [show ((a + 1 : Nat) : Int) = (a : Int) + 1 by omega] at this
 have HP : Hid (∀ (T : Tm) (nx : Int) (w' : World) (a' : Option Addr) (c' : Nat), Below w.heap.size w w' → SlIn w' w.heap.size [T] (.slice a' 1 c') → PNx s T nx o → post (.returned (.tuple #[.agg #[.int .i64 16, .int .i64 0, .slice a' 1 c'], .int .i64 nx])) w') := tuck fun T nx w' a' c' hb hs' hm => by
  rw [hpost, hpt]
  refine ⟨hb, .mk 16 0 [T], a', c', nx, rfl, hs', ?_⟩
  cases o with
  | none => exact hm
  | some x => exact ⟨by rw [hm.1], hm.2⟩
 clear hpost hpt ho ih HNO0
 go_enter Tryz.func47, Tryz.ntmps47
 go_wp2_with fail
 generalize w.alloc (.cells #[.int .i64 0, .int .i64 0, .slice none 0 0] 25) = W1 at *
 refine (HREC.out _).mono ?_
 rintro e w3 ⟨hb3, T, ta, tc, nx, rfl, hs3, hm⟩
 have hbx := below1 w3 (.cells #[.int .i64 T.kind, .int .i64 T.num, .slice ta T.kids.length tc] 25)
 have hby := below1 (w3.alloc (.cells #[.int .i64 T.kind, .int .i64 T.num, .slice ta T.kids.length tc] 25)) (.cells #[.int .i64 T.kind, .int .i64 T.num, .slice ta T.kids.length tc] 25)
 have HV3 := tuck (((HV1.out.below hb3).below hbx).below hby)
 have HB3 := tuck (bAfter HB1.out (bAfter (bAfter hb3 hbx) hby))
 have hz1 : w.heap.size + 1 ≤ W1.heap.size := HV1.out.facts.1
 have hx3 : SlX ((w3.alloc (.cells #[.int .i64 T.kind, .int .i64 T.num, .slice ta T.kids.length tc] 25)).alloc (.cells #[.int .i64 T.kind, .int .i64 T.num, .slice ta T.kids.length tc] 25)) (fun i => i < w.heap.size + 1) T.kids (.slice ta T.kids.length tc) := SlX.of_sl ((hs3.below hbx).below hby) (fun i hi => Nat.lt_of_lt_of_le hi hz1)
 have HNODE : Hid (Calls Tryz.prog 55 #[.int .i64 16, .slice (some ⟨w3.heap.size + 1, 0, none⟩) 1 1] ((w3.alloc (.cells #[.int .i64 T.kind, .int .i64 T.num, .slice ta T.kids.length tc] 25)).alloc (.cells #[.int .i64 T.kind, .int .i64 T.num, .slice ta T.kids.length tc] 25)) fun e w' => Below ((w3.alloc (.cells #[.int .i64 T.kind, .int .i64 T.num, .slice ta T.kids.length tc] 25)).alloc (.cells #[.int .i64 T.kind, .int .i64 T.num, .slice ta T.kids.length tc] 25)).heap.size ((w3.alloc (.cells #[.int .i64 T.kind, .int .i64 T.num, .slice ta T.kids.length tc] 25)).alloc (.cells #[.int .i64 T.kind, .int .i64 T.num, .slice ta T.kids.length tc] 25)) w' ∧ ∃ (a : Option Addr) (c : Nat), e = .returned (.agg #[.int .i64 16, .int .i64 0, .slice a 1 c]) ∧ SlX w' (fun i => i < w.heap.size + 1) [T] (.slice a 1 c)) := tuck (by
  have h := nodeX_any 16 [(T, .slice ta T.kids.length tc)] ((w3.alloc (.cells #[.int .i64 T.kind, .int .i64 T.num, .slice ta T.kids.length tc] 25)).alloc (.cells #[.int .i64 T.kind, .int .i64 T.num, .slice ta T.kids.length tc] 25)) (w3.alloc (.cells #[.int .i64 T.kind, .int .i64 T.num, .slice ta T.kids.length tc] 25)).heap.size 1 25 #[.int .i64 T.kind, .int .i64 T.num, .slice ta T.kids.length tc] (fun i => i < w.heap.size + 1) (fun i hi => by have h1 := hb3.size; have h2 := hby.size; have h3 := hbx.size; omega) (by simp) (by simp) (heap_new _ _) (by simp [cellsL]) (fun x hx => by simp only [List.mem_singleton] at hx; subst hx; exact hx3)
  rw [show (w3.alloc (.cells #[.int .i64 T.kind, .int .i64 T.num, .slice ta T.kids.length tc] 25)).heap.size = w3.heap.size + 1 by simp] at h
  exact h)
 obtain ⟨y0, b0, b1, b2, -⟩ := (VarAt.new w3 T.kind T.num (.slice ta T.kids.length tc)).facts
 have HM : Hid (PNx s T nx o) := tuck hm
 clear hb3 hbx hby hs3 hm hx3 HREC
 go_wp2_with fail
 refine HNODE.out.mono ?_
 rintro e w6 ⟨hb6, xa, xc, rfl, hs6⟩
 obtain ⟨z1, r0, r1, r2, rf⟩ := (HV3.out.below hb6).facts
 have HB6 := tuck (bAfter HB3.out hb6)
 have HS6 := tuck (SlX.from hs6)
 clear hb6 hs6 HNODE
 go_wp2_with fail
 refine bodyPost_ret (v := .tuple #[.agg #[.int .i64 16, .int .i64 0, .slice xa 1 xc], .int .i64 nx]) (by simp [results, Tryz.results47, go_sem, *]) rfl (HP.out T nx _ xa xc ?_ ?_ HM.out)
 ·exact bSet3 HB6.out (Nat.le_refl _) _ _ _ _ _ _
 ·exact (SlIn.set3 HS6.out (Nat.lt_succ_self _)).mono (Nat.le_succ _)
set_option maxRecDepth 100000 in
set_option maxHeartbeats 2000000 in
theorem n6_letter (s : ByteArray) (hs : s.size ≤ 1152921504606846976) (d : Nat) (hd : d + 1 ≤ 100) (B : Nat) (hB : B ≤ 1000) (ih : N6Ok s d (B + 1)) (nm : ByteArray) (a : Nat) (w : World) (hnm : nm.size ≤ B) (ha : a < s.size) (hl : ltr (s[a].toNat : Int) = true) : Calls Tryz.prog 47 #[.string s, .int .i64 a, .string nm, .int .i64 ((d + 1 : Nat) : Int)] w (PPost s w (npt s (d + 1) (bl nm nm.size) a)) := by
 obtain ⟨post, hpost⟩ : ∃ post : Ending → World → Prop, post = PPost s w (npt s (d + 1) (bl nm nm.size) a) := ⟨_, rfl⟩
 rw [← hpost]
 have HNO0 : Hid (npt s (d + 1) (bl nm nm.size) a = none → ∀ w', Below w.heap.size w w' → post (.returned (.tuple #[.agg #[.int .i64 0, .int .i64 0, .slice none 0 0], .int .i64 (-1)])) w') := tuck fun h w' hb => by rw [hpost, h]; exact PPost.zero hb
 have HB1 := tuck (below1 w (.cells #[.int .i64 0, .int .i64 0, .slice none 0 0] 25))
 have HV1 := tuck (VarAt.new w 0 0 (.slice none 0 0))
 have hdd : ((d + 1 : Nat) : Int) - 1 = (d : Int) := by omega
 have hds : (d : Int) + 1 - 1 = (d : Int) := by omega
 have hd1 : decide (((d + 1 : Nat) : Int) < 1) = false := decide_eq_false (by omega)
 have ha0 : decide ((a : Int) < 0) = false := decide_eq_false (by omega)
 have hai : (a : Int) < (s.size : Int) := by omega
 have hag : decide ((s.size : Int) ≤ (a : Int)) = false := decide_eq_false (by omega)
 have hlr := ltr_in hl
 have h255 := s[a].toNat_lt
 have g42 : ((s[a].toNat : Int) == 42) = false := by rw [beq_eq_false_iff_ne]; omega
 have g78 : ((s[a].toNat : Int) == 78) = false := by rw [beq_eq_false_iff_ne]; omega
 have g48 : ((s[a].toNat : Int) == 48) = false := by rw [beq_eq_false_iff_ne]; omega
 have g43 : ((s[a].toNat : Int) == 43) = false := by rw [beq_eq_false_iff_ne]; omega
 have g33 : ((s[a].toNat : Int) == 33) = false := by rw [beq_eq_false_iff_ne]; omega
 have g94 : ((s[a].toNat : Int) == 94) = false := by rw [beq_eq_false_iff_ne]; omega
 have g95 : ((s[a].toNat : Int) == 95) = false := by rw [beq_eq_false_iff_ne]; omega
 have g40 : ((s[a].toNat : Int) == 40) = false := by rw [beq_eq_false_iff_ne]; omega
 have g91 : ((s[a].toNat : Int) == 91) = false := by rw [beq_eq_false_iff_ne]; omega
 have HL : Hid (∀ W, Calls Tryz.prog 72 #[.int .u8 (s[a].toNat : Int)] W (SameW W (.bool true))) := tuck fun W => by
  have := letter_any (s[a].toNat : Int) W (by omega) (by omega)
  rwa [hl] at this
 have hnv : npt s (d + 1) (bl nm nm.size) a = (nVar (bl nm nm.size) (s[a].toNat : Int)).map fun (k : Nat) => (.mk 1 (k : Int) [], a + 1) := by
  rw [npt, if_pos ha, byteAt_eq ha, if_neg (by omega), if_neg (by omega), if_neg (by omega), if_neg (by omega), if_pos hl]
 unfold nVar at hnv
 cases hf : nfind (bl nm nm.size) (s[a].toNat : Int) with
 | none =>
  have HF : Hid (∀ W, Calls Tryz.prog 73 #[.string nm, .int .u8 (s[a].toNat : Int)] W (SameW W (.int .i64 (-1)))) := tuck fun W => by
   have := findS_any nm (s[a].toNat : Int) W (by unfold maxLen; omega)
   rwa [hf] at this
  rw [hf] at hnv
  have HNO := tuck (HNO0.out hnv)
  clear hnv hf hpost ih HNO0
  go_enter Tryz.func47, Tryz.ntmps47
  go_wp2_with fail
  generalize w.alloc (.cells #[.int .i64 0, .int .i64 0, .slice none 0 0] 25) = W1 at *
  refine (HL.out _).mono ?_
  rintro e wq ⟨rfl, hwq⟩
  have hwq' := hwq.symm
  subst hwq'
  go_wp2_with fail
  refine (HF.out _).mono ?_
  rintro e wq ⟨rfl, hwq⟩
  have hwq' := hwq.symm
  subst hwq'
  obtain ⟨z1, r0, r1, r2, rf⟩ := HV1.out.facts
  go_wp2_with fail
  refine bodyPost_ret (v := .tuple #[.agg #[.int .i64 0, .int .i64 0, .slice none 0 0], .int .i64 (-1)]) (by simp [results, Tryz.results47, go_sem, *]) rfl (HNO.out _ ?_)
  exact bSet3 HB1.out (Nat.le_refl _) _ _ _ _ _ _
 | some k =>
  have HF : Hid (∀ W, Calls Tryz.prog 73 #[.string nm, .int .u8 (s[a].toNat : Int)] W (SameW W (.int .i64 ((k : Int))))) := tuck fun W => by
   have := findS_any nm (s[a].toNat : Int) W (by unfold maxLen; omega)
   rwa [hf] at this
  rw [hf] at hnv
  have kf1 : decide ((k : Int) < 0) = false := decide_eq_false (by omega)
  by_cases hk : k ≤ 20
  ·have kf2 : decide ((20 : Int) < (k : Int)) = false := decide_eq_false (by omega)
   dsimp only at hnv
   rw [if_pos hk] at hnv
   have HYES : Hid (∀ (w' : World), Below w.heap.size w w' → post (.returned (.tuple #[.agg #[.int .i64 1, .int .i64 k, .slice none 0 0], .int .i64 ((a : Int) + 1)])) w') := tuck fun w' hb => by
    rw [hpost, hnv]
    exact ⟨hb, .mk 1 k [], none, 0, _, rfl, SlIn.nil _ _ _ _, rfl, by show (a : Int) + 1 = ((a + 1 : Nat) : Int); omega, ha⟩
   clear hnv hf hpost ih HNO0
   go_enter Tryz.func47, Tryz.ntmps47
   go_wp2_with fail
   generalize w.alloc (.cells #[.int .i64 0, .int .i64 0, .slice none 0 0] 25) = W1 at *
   refine (HL.out _).mono ?_
   rintro e wq ⟨rfl, hwq⟩
   have hwq' := hwq.symm
   subst hwq'
   go_wp2_with fail
   refine (HF.out _).mono ?_
   rintro e wq ⟨rfl, hwq⟩
   have hwq' := hwq.symm
   subst hwq'
   go_wp2_with fail
   refine (leaf_any 1 k _).mono ?_
   rintro e w3 ⟨rfl, hb3⟩
   obtain ⟨z1, r0, r1, r2, rf⟩ := (HV1.out.below hb3).facts
   have HB3 := tuck (bAfter HB1.out hb3)
   clear hb3
   go_wp2_with fail
   refine bodyPost_ret (v := .tuple #[.agg #[.int .i64 1, .int .i64 k, .slice none 0 0], .int .i64 ((a : Int) + 1)]) (by simp [results, Tryz.results47, go_sem, *]) rfl (HYES.out _ ?_)
   exact bSet3 HB3.out (Nat.le_refl _) _ _ _ _ _ _
  ·have kf2 : decide ((20 : Int) < (k : Int)) = true := decide_eq_true (by omega)
   dsimp only at hnv
   rw [if_neg hk] at hnv
   have HNO := tuck (HNO0.out hnv)
   clear hnv hf hpost ih HNO0
   go_enter Tryz.func47, Tryz.ntmps47
   go_wp2_with fail
   generalize w.alloc (.cells #[.int .i64 0, .int .i64 0, .slice none 0 0] 25) = W1 at *
   refine (HL.out _).mono ?_
   rintro e wq ⟨rfl, hwq⟩
   have hwq' := hwq.symm
   subst hwq'
   go_wp2_with fail
   refine (HF.out _).mono ?_
   rintro e wq ⟨rfl, hwq⟩
   have hwq' := hwq.symm
   subst hwq'
   obtain ⟨z1, r0, r1, r2, rf⟩ := HV1.out.facts
   go_wp2_with fail
   refine bodyPost_ret (v := .tuple #[.agg #[.int .i64 0, .int .i64 0, .slice none 0 0], .int .i64 (-1)]) (by simp [results, Tryz.results47, go_sem, *]) rfl (HNO.out _ ?_)
   exact bSet3 HB1.out (Nat.le_refl _) _ _ _ _ _ _
set_option maxRecDepth 100000 in
set_option maxHeartbeats 2000000 in
theorem n6_block (s : ByteArray) (hs : s.size ≤ 1152921504606846976) (d : Nat) (hd : d + 1 ≤ 100) (B : Nat) (hB : B ≤ 1000) (ih : N6Ok s d (B + 1)) (nm : ByteArray) (a : Nat) (w : World) (hnm : nm.size ≤ B) (ha : a < s.size) (hl : ltr (s[a].toNat : Int) = false) (h42 : s[a].toNat ≠ 42) (h78 : s[a].toNat ≠ 78) (h48 : s[a].toNat ≠ 48) (h43 : s[a].toNat ≠ 43) (h33 : s[a].toNat ≠ 33) (h94 : s[a].toNat ≠ 94) (h95 : s[a].toNat ≠ 95) (h40 : s[a].toNat ≠ 40) (h91 : s[a].toNat ≠ 91) : Calls Tryz.prog 47 #[.string s, .int .i64 a, .string nm, .int .i64 ((d + 1 : Nat) : Int)] w (PPost s w (npt s (d + 1) (bl nm nm.size) a)) := by
 obtain ⟨post, hpost⟩ : ∃ post : Ending → World → Prop, post = PPost s w (npt s (d + 1) (bl nm nm.size) a) := ⟨_, rfl⟩
 rw [← hpost]
 have HNO0 : Hid (npt s (d + 1) (bl nm nm.size) a = none → ∀ w', Below w.heap.size w w' → post (.returned (.tuple #[.agg #[.int .i64 0, .int .i64 0, .slice none 0 0], .int .i64 (-1)])) w') := tuck fun h w' hb => by rw [hpost, h]; exact PPost.zero hb
 have HB1 := tuck (below1 w (.cells #[.int .i64 0, .int .i64 0, .slice none 0 0] 25))
 have HV1 := tuck (VarAt.new w 0 0 (.slice none 0 0))
 have hdd : ((d + 1 : Nat) : Int) - 1 = (d : Int) := by omega
 have hds : (d : Int) + 1 - 1 = (d : Int) := by omega
 have hd1 : decide (((d + 1 : Nat) : Int) < 1) = false := decide_eq_false (by omega)
 have ha0 : decide ((a : Int) < 0) = false := decide_eq_false (by omega)
 have hai : (a : Int) < (s.size : Int) := by omega
 have hag : decide ((s.size : Int) ≤ (a : Int)) = false := decide_eq_false (by omega)
 have h255 := s[a].toNat_lt
 have g42 : ((s[a].toNat : Int) == 42) = false := by rw [beq_eq_false_iff_ne]; omega
 have g78 : ((s[a].toNat : Int) == 78) = false := by rw [beq_eq_false_iff_ne]; omega
 have g48 : ((s[a].toNat : Int) == 48) = false := by rw [beq_eq_false_iff_ne]; omega
 have g43 : ((s[a].toNat : Int) == 43) = false := by rw [beq_eq_false_iff_ne]; omega
 have g33 : ((s[a].toNat : Int) == 33) = false := by rw [beq_eq_false_iff_ne]; omega
 have g94 : ((s[a].toNat : Int) == 94) = false := by rw [beq_eq_false_iff_ne]; omega
 have g95 : ((s[a].toNat : Int) == 95) = false := by rw [beq_eq_false_iff_ne]; omega
 have g40 : ((s[a].toNat : Int) == 40) = false := by rw [beq_eq_false_iff_ne]; omega
 have g91 : ((s[a].toNat : Int) == 91) = false := by rw [beq_eq_false_iff_ne]; omega
 have HL : Hid (∀ W, Calls Tryz.prog 72 #[.int .u8 (s[a].toNat : Int)] W (SameW W (.bool false))) := tuck fun W => by
  have := letter_any (s[a].toNat : Int) W (by omega) (by omega)
  rwa [hl] at this
 obtain ⟨o, ho⟩ : ∃ o : Option (Tm × Nat), o = ptBlock s (npt s d (bl nm nm.size)) a := ⟨_, rfl⟩
 have hpt : npt s (d + 1) (bl nm nm.size) a = o := by
  rw [npt, if_pos ha, byteAt_eq ha, if_neg (by omega), if_neg (by omega), if_neg (by omega), if_neg (by omega), if_neg (by rw [hl]; decide), ho]
 have HC : Hid (∀ W, Calls Tryz.prog 77 #[.string s, .int .i64 a, .string nm, .int .i64 ((d + 1 : Nat) : Int)] W (PPost s W o)) := tuck fun W => by
  have := block6_any s hs d (by omega) nm (npt s d (bl nm nm.size)) (fun A W => ih nm A W (by omega)) a ha W
  rw [ho]
  rwa [show (d : Int) + 1 = ((d + 1 : Nat) : Int) by omega] at this
 have HYES : Hid (∀ (T : Tm) (a' : Option Addr) (c' : Nat) (nx : Int) (w' : World), Below w.heap.size w w' → SlIn w' w.heap.size T.kids (.slice a' T.kids.length c') → PNx s T nx o → post (.returned (.tuple #[.agg #[.int .i64 T.kind, .int .i64 T.num, .slice a' T.kids.length c'], .int .i64 nx])) w') := tuck fun T a' c' nx w' hb hs' hm => by
  rw [hpost, hpt]
  exact ⟨hb, T, a', c', nx, rfl, hs', by cases o <;> exact hm⟩
 clear hpost hpt ih ho HNO0
 go_enter Tryz.func47, Tryz.ntmps47
 go_wp2_with fail
 generalize w.alloc (.cells #[.int .i64 0, .int .i64 0, .slice none 0 0] 25) = W1 at *
 refine (HL.out _).mono ?_
 rintro e wq ⟨rfl, hwq⟩
 have hwq' := hwq.symm
 subst hwq'
 go_wp2_with fail
 refine (HC.out _).mono ?_
 rintro e w3 ⟨hb3, T, ta, tc, nx, rfl, hs3, hm⟩
 have hzz := HV1.out.facts.1
 obtain ⟨z1, r0, r1, r2, rf⟩ := (HV1.out.below hb3).facts
 have HB3 := tuck (bAfter HB1.out hb3)
 have HS3 : Hid (SlIn w3 (w.heap.size + 1) T.kids (.slice ta T.kids.length tc)) := tuck (hs3.mono hzz)
 have HM : Hid (PNx s T nx o) := tuck hm
 clear hb3 hs3 hm hzz
 go_wp2_with fail
 refine bodyPost_ret (v := .tuple #[.agg #[.int .i64 T.kind, .int .i64 T.num, .slice ta T.kids.length tc], .int .i64 nx]) (by simp [results, Tryz.results47, go_sem, *]) rfl (HYES.out T ta tc nx _ ?_ ?_ HM.out)
 ·exact bSet3 HB3.out (Nat.le_refl _) _ _ _ _ _ _
 ·exact (SlIn.set3 HS3.out (Nat.lt_succ_self _)).mono (Nat.le_succ _)
end Go.Proofs.YtjdmfegdgpbkgaaGreat
