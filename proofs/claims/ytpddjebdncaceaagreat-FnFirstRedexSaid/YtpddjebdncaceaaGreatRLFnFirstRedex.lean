/-
  The law FnFirstRedex: whatever the bytes, a step is the contraction at the first place of a redex.
-/
import Derived.Test.YtpddjebdncaceaaGreatR12
import Derived.Test.YtpddjebdncaceaaGreatR49
import Derived.Test.YtpddjebdncaceaaGreatR51
import Derived.Test.YtpddjebdncaceaaGreatR52
import Derived.Test.YtpddjebdncaceaaGreatR54
import Derived.IntWalk
namespace Go.Proofs.YtpddjebdncaceaaGreat.fnFirstRedex
open Go.ChangeShapes Go.WideShapes Go.ChangeAt Go.RowKit Go.Deep
set_option linter.unusedVariables false
theorem readable_FnFirstRedex : ∀ t ∈ (#[43] : Array TypeId).toList, Tryz.prog.readableRec t = true ∧ t < Tryz.prog.types.size := by
 intro t ht
 simp at ht
 subst ht
 exact ⟨by kernel_rfl, of_decide_eq_true (by kernel_rfl)⟩
theorem laid : laidOutB Tryz.prog = true := by kernel_rfl
set_option maxRecDepth 100000 in
set_option maxHeartbeats 1600000 in
theorem walk (U : Nat → Int) (a : Option Addr) (b o len cap : Nat) (w : World) (hlc : len ≤ cap) (hcm : cap ≤ maxLen) (hby : Bytes U a b o len w) : Calls Tryz.prog 5 #[.slice a len cap] w fun e w' => e = .returned (.bool true) ∧ Below w.heap.size w w' := by
 unfold maxLen at hcm
 by_cases hl : 1048576 < len
 ·have hl' : (1048576 : Int) < (len : Int) := by omega
  clear hby
  go_enter Tryz.func5, Tryz.ntmps5
  go_wp2
  go_ret
  exact ⟨rfl, Below.refl _ _⟩
 have hl' : ¬ (1048576 : Int) < (len : Int) := by omega
 have HD := tuck (dRedexPlaces_any w (by omega) hlc hby)
 clear hby
 go_enter Tryz.func5, Tryz.ntmps5
 go_wp2_with fail
 refine HD.out.mono ?_
 rintro e w1 ⟨T, v, rfl, ⟨s, rfl, hin⟩, hsz, hb⟩
 obtain ⟨aV, cV, rfl⟩ := hin.form
 have V := tuck (TV.new (hin.mono (Nat.zero_le _)))
 have HB := tuck (bAfter hb (below1 w1 (.cells #[.int .i64 T.kind, .int .i64 T.num, .slice aV T.kids.length cV] 34)))
 have HSZ : Hid (sizes T.kids ≤ 1048576) := tuck (by have := T.size_eq; omega)
 clear hin hb HD hsz
 go_wp2_with fail
 generalize w1.alloc (.cells #[.int .i64 T.kind, .int .i64 T.num, .slice aV T.kids.length cV] 34) = U0 at *
 generalize w1.heap.size = gV at *
 obtain ⟨L, hL⟩ : ∃ L, L = placesP true T := ⟨_, rfl⟩
 have HIM : Hid (∀ (w : World) (v : Value), TmIn w 0 T v → Calls Tryz.prog 26 #[v] w (LOwn w L)) := fun w v h => by
  rw [hL]; exact redexPlacesI_any T w v h
 have HSP : Hid (∀ (w : World) (v : Value), TmIn w 0 T v → Calls Tryz.prog 27 #[v] w (LPost w L)) := fun w v h => by
  rw [hL]; exact redexPlacesS_any T w v h
 have hLl : L.length ≤ 1000 := by rw [hL]; exact placesP_len true T
 have hll : ((L.length : Int) != (L.length : Int)) = false := by simp
 have hle : ((L.length : Int) == (L.length : Int)) = true := by simp
 by_cases h0 : 0 < L.length
 rotate_left
 ·skip
  obtain ⟨X, hX⟩ : ∃ X, X = (stepOut false false T).1 := ⟨_, rfl⟩
  obtain ⟨c, hc⟩ : ∃ c, c = (stepOut false false T).2 := ⟨_, rfl⟩
  have hc1 : (c != 1) = true := by
   have h1 := first_none (T := T) (by rw [← hL]; omega)
   rw [hc]; simpa using h1
  have hl0 : ((L.length : Int) == 0) = true := by rw [beq_iff_eq]; omega
  have HST : Hid (∀ (w : World) (v : Value), TmIn w 0 T v → Calls Tryz.prog 28 #[v] w (CdPost w c X)) := fun w v h => by
   have h2 := stepI_f T w v h; rwa [← hc, ← hX] at h2
  clear hX hc hL h0
  refine (HIM.out _ _ V.out.tm).mono ?_
  rintro e u21 ⟨hb, lv21, rfl, hq⟩
  obtain ⟨la, lc, rfl⟩ := hq.form
  replace V := tuck (V.out.below hb)
  replace HB := tuck (bAfter HB.out hb)
  clear hb hq
  obtain ⟨zV, c0V, c1V, c2V, cfV⟩ := V.out.facts
  go_wp2_with fail
  refine (HSP.out _ _ V.out.tm).mono ?_
  rintro e u22 ⟨hb, lv22, rfl, hq⟩
  obtain ⟨ma, mc, rfl⟩ := hq.form
  clear zV c0V c1V c2V cfV
  replace V := tuck (V.out.below hb)
  replace HB := tuck (bAfter HB.out hb)
  clear hb hq
  obtain ⟨zV, c0V, c1V, c2V, cfV⟩ := V.out.facts
  go_wp2_with fail
  refine (HST.out _ _ V.out.tm).mono ?_
  rintro e u23 ⟨hb, vv, rfl, ss, rfl, hin⟩
  obtain ⟨aVX, cVX, rfl⟩ := hin.form
  clear zV c0V c1V c2V cfV
  replace V := tuck (V.out.below hb)
  replace HB := tuck (bAfter HB.out hb)
  have HNVX := tuck hin
  clear hb hin
  obtain ⟨zV, c0V, c1V, c2V, cfV⟩ := V.out.facts
  go_wp2_with fail
  clear zV c0V c1V c2V cfV
  have VX := tuck (TV.new HNVX.out)
  have hb := below1 u23 (.cells #[.int .i64 X.kind, .int .i64 X.num, .slice aVX X.kids.length cVX] 34)
  replace V := tuck (V.out.below hb)
  replace HB := tuck (bAfter HB.out hb)
  clear hb HNVX
  generalize u23.alloc (.cells #[.int .i64 X.kind, .int .i64 X.num, .slice aVX X.kids.length cVX] 34) = U23 at *
  generalize u23.heap.size = gVX at *
  go_wp2_with fail
  go_ret
  exact ⟨rfl, HB.out⟩
 have hl0 : ((L.length : Int) == 0) = false := by rw [beq_eq_false_iff_ne]; omega
 obtain ⟨hP, hn, hcase⟩ := first_some (T := T) (by rw [← hL]; exact h0)
 obtain ⟨N, n, hNn⟩ : ∃ N n, (N, n) = L[0] := ⟨_, _, rfl⟩
 have hz : (placesP true T)[0]'(by rw [← hL]; exact h0) = (N, n) := by subst hL; exact hNn.symm
 rw [hz] at hP hn hcase
 simp only at hP hn hcase
 have HN := tuck hn
 rcases hcase with ⟨hC, hS⟩ | ⟨hC, hS⟩
 ·skip
  obtain ⟨X, hX⟩ : ∃ X, X = contrAt T N n := ⟨_, rfl⟩
  have HVX : Hid (X.Valid) := tuck (hX ▸ hC.2.2)
  have HST : Hid (∀ (w : World) (v : Value), TmIn w 0 T v → Calls Tryz.prog 28 #[v] w (CdPost w 1 X)) := fun w v h => by
   have h2 := stepI_f T w v h; rwa [hS, ← hX] at h2
  have HTS : Hid (∀ (w : World) (v1 v2 : Value), TmIn w 0 X v1 → TmIn w 0 X v2 → Calls Tryz.prog 22 #[v1, v2] w (BoolPost w true)) := same_v HVX.out
  have HT1 : Hid (∀ (w : World) (v tv : Value), Ints w 0 N n v → TmIn w 0 T tv → Calls Tryz.prog 20 #[tv, v] w (NewPost8 w X true)) := fun w v tv h1 h2 => by
   have h3 := contrAtI_n (N := N) HN.out w v tv h1 h2; rwa [orZero_yes hC, tr_of hC, ← hX] at h3
  clear hX hS hC hP hn hz hL
  refine (HIM.out _ _ V.out.tm).mono ?_
  rintro e u21 ⟨hb, lv21, rfl, hq⟩
  obtain ⟨la, lc, rfl⟩ := hq.form
  replace V := tuck (V.out.below hb)
  replace HB := tuck (bAfter HB.out hb)
  have RL := tuck (hq.rowP.base (b' := 0) (Nat.zero_le _))
  clear hb hq
  obtain ⟨zV, c0V, c1V, c2V, cfV⟩ := V.out.facts
  go_wp2_with fail
  refine (HSP.out _ _ V.out.tm).mono ?_
  rintro e u22 ⟨hb, lv22, rfl, hq⟩
  obtain ⟨ma, mc, rfl⟩ := hq.form
  clear zV c0V c1V c2V cfV
  replace V := tuck (V.out.below hb)
  replace RL := tuck (RL.out.below hb)
  replace HB := tuck (bAfter HB.out hb)
  clear hb hq
  obtain ⟨zV, c0V, c1V, c2V, cfV⟩ := V.out.facts
  go_wp2_with fail
  refine (HST.out _ _ V.out.tm).mono ?_
  rintro e u23 ⟨hb, vv, rfl, ss, rfl, hin⟩
  obtain ⟨aVX, cVX, rfl⟩ := hin.form
  clear zV c0V c1V c2V cfV
  replace V := tuck (V.out.below hb)
  replace RL := tuck (RL.out.below hb)
  replace HB := tuck (bAfter HB.out hb)
  have HNVX := tuck hin
  clear hb hin
  obtain ⟨zV, c0V, c1V, c2V, cfV⟩ := V.out.facts
  go_wp2_with fail
  clear zV c0V c1V c2V cfV
  have VX := tuck (TV.new HNVX.out)
  have hb := below1 u23 (.cells #[.int .i64 X.kind, .int .i64 X.num, .slice aVX X.kids.length cVX] 34)
  replace V := tuck (V.out.below hb)
  replace RL := tuck (RL.out.below hb)
  replace HB := tuck (bAfter HB.out hb)
  clear hb HNVX
  generalize u23.alloc (.cells #[.int .i64 X.kind, .int .i64 X.num, .slice aVX X.kids.length cVX] 34) = U23 at *
  generalize u23.heap.size = gVX at *
  obtain ⟨g1, hg1, -, ua, uc, k1, k2, -⟩ := RL.out.at h0
  obtain ⟨rfl, hg1l⟩ := hg1
  rw [← hNn] at k1 k2
  have HI1 := tuck k2.ints
  have HC1 := tuck (show g1 < U23.heap.size ∧ U23.cell? ⟨g1, 0, none⟩ = some (.slice ua n uc) from ⟨hg1l, k1⟩)
  have hlpos : (0 : Int) < (L.length : Int) := by omega
  clear k1 k2 hg1l hNn
  obtain ⟨zV, c0V, c1V, c2V, cfV⟩ := V.out.facts
  go_upto_region 9 with fail
  clear zV c0V c1V c2V cfV
  have HX := tuck (show BoxAt gV T.kind T.num (.slice aV T.kids.length cV) U23 from V.out.var.four)
  have HTX := tuck V.out.tm
  go_cut [8, 9] (fun p0 p1 wx => ∃ (gz : Nat) (aa : Option Addr) (cc : Nat), p0 = .pointer (some ⟨gz, 0, none⟩) ∧ p1 = .bool true ∧ Below U23.heap.size U23 wx ∧ VarAt gz X.kind X.num (.slice aa X.kids.length cc) wx ∧ SlIn wx 0 X.kids (.slice aa X.kids.length cc))
  case first =>
   have HT12 : ∀ w' : World, (fun w' : World => Below U23.heap.size U23 w' ∧ (gV < w'.heap.size ∧ w'.cell? ⟨gV, 0, none⟩ = some (.int .i64 T.kind) ∧ w'.cell? ⟨gV, 1, none⟩ = some (.int .i64 T.num) ∧ w'.cell? ⟨gV, 2, none⟩ = some (.slice aV T.kids.length cV)) ∧ (g1 < w'.heap.size ∧ w'.cell? ⟨g1, 0, none⟩ = some (.slice ua n uc))) w' → (fun w' : World => Below U23.heap.size U23 w' ∧ (gV < w'.heap.size ∧ w'.cell? ⟨gV, 0, none⟩ = some (.int .i64 T.kind) ∧ w'.cell? ⟨gV, 1, none⟩ = some (.int .i64 T.num) ∧ w'.cell? ⟨gV, 2, none⟩ = some (.slice aV T.kids.length cV)) ∧ (g1 < w'.heap.size ∧ w'.cell? ⟨g1, 0, none⟩ = some (.slice ua n uc))) w' := fun w' h => h
   refine AnyTwo.begin (fun w' : World => Below U23.heap.size U23 w' ∧ (gV < w'.heap.size ∧ w'.cell? ⟨gV, 0, none⟩ = some (.int .i64 T.kind) ∧ w'.cell? ⟨gV, 1, none⟩ = some (.int .i64 T.num) ∧ w'.cell? ⟨gV, 2, none⟩ = some (.slice aV T.kids.length cV)) ∧ (g1 < w'.heap.size ∧ w'.cell? ⟨g1, 0, none⟩ = some (.slice ua n uc))) (fun w' : World => Below U23.heap.size U23 w' ∧ (gV < w'.heap.size ∧ w'.cell? ⟨gV, 0, none⟩ = some (.int .i64 T.kind) ∧ w'.cell? ⟨gV, 1, none⟩ = some (.int .i64 T.num) ∧ w'.cell? ⟨gV, 2, none⟩ = some (.slice aV T.kids.length cV)) ∧ (g1 < w'.heap.size ∧ w'.cell? ⟨g1, 0, none⟩ = some (.slice ua n uc))) 10 (by kernel_rfl) ?_
   have hS1 : (fun w' : World => Below U23.heap.size U23 w' ∧ (gV < w'.heap.size ∧ w'.cell? ⟨gV, 0, none⟩ = some (.int .i64 T.kind) ∧ w'.cell? ⟨gV, 1, none⟩ = some (.int .i64 T.num) ∧ w'.cell? ⟨gV, 2, none⟩ = some (.slice aV T.kids.length cV)) ∧ (g1 < w'.heap.size ∧ w'.cell? ⟨g1, 0, none⟩ = some (.slice ua n uc))) U23.drew := ⟨(Below.refl _ _).drew, HX.out, HC1.out⟩
   have HXL : Hid (gV < U23.heap.size) := tuck HX.out.1
   have HGN : Hid (g1 ≠ U23.heap.size) := tuck (Nat.ne_of_lt HC1.out.1)
   refine AnyTwo.takeAny HT12 (i := 0) (oi := { dst := some 44, op := _, type := _, pos := _, after := _, guard := _ }) (v := ?vft0) rfl (by kernel_rfl) (by kernel_rfl) (by decide +kernel) (by rfl) (fun _ _ _ h => h) (Or.inl ⟨by rfl, ?yft0⟩) (ph_one (by kernel_rfl) hS1) ?rft0
   case yft0 => (intro w hSw; (try dsimp only at hSw); go_simp; try (with_reducible rfl))
   try simp only [Act.put, List.setIfInBounds_toArray, List.set_cons_zero, List.set_cons_succ]
   refine AnyTwo.takeAny HT12 (i := 1) (oi := { dst := some 45, op := _, type := _, pos := _, after := _, guard := _ }) (v := ?vft1) rfl (by kernel_rfl) (by kernel_rfl) (by decide +kernel) (by rfl) (fun _ _ _ h => h) (Or.inl ⟨by rfl, ?yft1⟩) (ph_one (by kernel_rfl) hS1) ?rft1
   case yft1 => (intro w hSw; (try dsimp only at hSw); go_simp; try (with_reducible rfl))
   try simp only [Act.put, List.setIfInBounds_toArray, List.set_cons_zero, List.set_cons_succ]
   refine AnyTwo.takeAny HT12 (i := 2) (oi := { dst := some 46, op := _, type := _, pos := _, after := _, guard := _ }) (v := ?vft2) rfl (by kernel_rfl) (by kernel_rfl) (by decide +kernel) (by rfl) (fun _ _ _ h => h) (Or.inl ⟨by rfl, ?yft2⟩) (ph_one (by kernel_rfl) hS1) ?rft2
   case yft2 => (intro w hSw; (try dsimp only at hSw); go_simp; try (with_reducible rfl))
   try simp only [Act.put, List.setIfInBounds_toArray, List.set_cons_zero, List.set_cons_succ]
   refine AnyTwo.takeAny HT12 (i := 3) (oi := { dst := some 47, op := _, type := _, pos := _, after := _, guard := _ }) (v := ?vft3) rfl (by kernel_rfl) (by kernel_rfl) (by decide +kernel) (by rfl) (fun _ _ _ h => h) (Or.inl ⟨by rfl, ?yft3⟩) (ph_one (by kernel_rfl) hS1) ?rft3
   case yft3 => (intro w hSw; (try dsimp only at hSw); go_simp; try (with_reducible rfl))
   try simp only [Act.put, List.setIfInBounds_toArray, List.set_cons_zero, List.set_cons_succ]
   refine AnyTwo.fork (i := 4) (o := { dst := some 48, op := _, type := _, pos := _, after := _, guard := _ }) (j := 8) (o' := { dst := some 8, op := _, type := _, pos := _, after := _, guard := _ }) (by kernel_rfl) rfl rfl (fun K hK => ?_) (fun K hK => ?_)
   ·skip
    go_simp
    refine (HT1.out _ _ _ (HI1.out.below hS1.1) (by obtain ⟨s, e, hs⟩ := HTX.out; exact ⟨s, e, hs.below hS1.1⟩)).mono ?_
    rintro e w9 ⟨hbq, vv, rfl, ss, rfl, hin⟩
    obtain ⟨aX, cX, rfl⟩ := hin.form
    have HW := tuck hin
    clear hin
    have HH9 : Hid ((fun w' : World => Below U23.heap.size U23 w' ∧ (gV < w'.heap.size ∧ w'.cell? ⟨gV, 0, none⟩ = some (.int .i64 T.kind) ∧ w'.cell? ⟨gV, 1, none⟩ = some (.int .i64 T.num) ∧ w'.cell? ⟨gV, 2, none⟩ = some (.slice aV T.kids.length cV)) ∧ (g1 < w'.heap.size ∧ w'.cell? ⟨g1, 0, none⟩ = some (.slice ua n uc))) w9) := tuck (⟨bAfter hS1.1 hbq, BoxAt.below hS1.2.1 hbq, cellAt_keep hS1.2.2 hbq⟩)
    have hS1' : (fun w' : World => Below U23.heap.size U23 w' ∧ (gV < w'.heap.size ∧ w'.cell? ⟨gV, 0, none⟩ = some (.int .i64 T.kind) ∧ w'.cell? ⟨gV, 1, none⟩ = some (.int .i64 T.num) ∧ w'.cell? ⟨gV, 2, none⟩ = some (.slice aV T.kids.length cV)) ∧ (g1 < w'.heap.size ∧ w'.cell? ⟨g1, 0, none⟩ = some (.slice ua n uc))) _ := HH9.out
    refine hK.out _ _ (ph_one (by kernel_rfl) hS1') ?_
    clear hK K hS1
    have hS1 := hS1'
    clear hS1'
    try simp only [Act.put, List.setIfInBounds_toArray, List.set_cons_zero, List.set_cons_succ]
    refine AnyTwo.takeAny HT12 (i := 5) (oi := { dst := some 43, op := _, type := _, pos := _, after := _, guard := _ }) (v := ?vftc5) rfl (by kernel_rfl) (by kernel_rfl) (by decide +kernel) (by rfl) (fun _ _ _ h => h) (Or.inl ⟨by rfl, ?yftc5⟩) (ph_one (by kernel_rfl) hS1) ?rftc5
    case yftc5 => (intro w hSw; (try dsimp only at hSw); go_simp; try (with_reducible rfl))
    try simp only [Act.put, List.setIfInBounds_toArray, List.set_cons_zero, List.set_cons_succ]
    refine AnyTwo.takeAny HT12 (i := 6) (oi := { dst := some 49, op := _, type := _, pos := _, after := _, guard := _ }) (v := ?vftc6) rfl (by kernel_rfl) (by kernel_rfl) (by decide +kernel) (by rfl) (fun _ _ _ h => h) (Or.inl ⟨by rfl, ?yftc6⟩) (ph_one (by kernel_rfl) hS1) ?rftc6
    case yftc6 => (intro w hSw; (try dsimp only at hSw); go_simp; try (with_reducible rfl))
    try simp only [Act.put, List.setIfInBounds_toArray, List.set_cons_zero, List.set_cons_succ]
    refine AnyTwo.takeAny HT12 (i := 7) (oi := { dst := some 50, op := _, type := _, pos := _, after := _, guard := _ }) (v := ?vftc7) rfl (by kernel_rfl) (by kernel_rfl) (by decide +kernel) (by rfl) (fun _ _ _ h => h) (Or.inl ⟨by rfl, ?yftc7⟩) (ph_one (by kernel_rfl) hS1) ?rftc7
    case yftc7 => (intro w hSw; (try dsimp only at hSw); go_simp; try (with_reducible rfl))
    try simp only [Act.put, List.setIfInBounds_toArray, List.set_cons_zero, List.set_cons_succ]
    refine AnyTwo.step (i := 8) (o := { dst := some 8, op := _, type := _, pos := _, after := _, guard := _ }) (by kernel_rfl) rfl (fun K hK => ?_)
    go_simp
    have HZ0 := tuck (show U23.heap.size ≤ w9.heap.size from hS1.1.size)
    have hS1' : (fun w' : World => Below U23.heap.size U23 w' ∧ (gV < w'.heap.size ∧ w'.cell? ⟨gV, 0, none⟩ = some (.int .i64 T.kind) ∧ w'.cell? ⟨gV, 1, none⟩ = some (.int .i64 T.num) ∧ w'.cell? ⟨gV, 2, none⟩ = some (.slice aV T.kids.length cV)) ∧ (g1 < w'.heap.size ∧ w'.cell? ⟨g1, 0, none⟩ = some (.slice ua n uc))) _ := ⟨bAfter HH9.out.1 (below1 w9 (.cells #[.int .i64 0, .int .i64 0, .slice none 0 0] 34)), BoxAt.below HH9.out.2.1 (below1 w9 (.cells #[.int .i64 0, .int .i64 0, .slice none 0 0] 34)), cellAt_keep HH9.out.2.2 (below1 w9 (.cells #[.int .i64 0, .int .i64 0, .slice none 0 0] 34))⟩
    refine hK.out _ _ (ph_one (by kernel_rfl) hS1') ?_
    clear hK K hS1
    have hS1 := hS1'
    clear hS1'
    try simp only [Act.put, List.setIfInBounds_toArray, List.set_cons_zero, List.set_cons_succ]
    refine AnyTwo.step (i := 9) (o := { dst := none, op := _, type := _, pos := _, after := _, guard := _ }) (by kernel_rfl) rfl (fun K hK => ?_)
    go_simp
    have hS1' : (fun w' : World => Below U23.heap.size U23 w' ∧ (gV < w'.heap.size ∧ w'.cell? ⟨gV, 0, none⟩ = some (.int .i64 T.kind) ∧ w'.cell? ⟨gV, 1, none⟩ = some (.int .i64 T.num) ∧ w'.cell? ⟨gV, 2, none⟩ = some (.slice aV T.kids.length cV)) ∧ (g1 < w'.heap.size ∧ w'.cell? ⟨g1, 0, none⟩ = some (.slice ua n uc))) _ := ⟨bAfter HH9.out.1 (below1 w9 (.cells #[.int .i64 X.kind, .int .i64 X.num, .slice aX X.kids.length cX] 34)), BoxAt.below HH9.out.2.1 (below1 w9 (.cells #[.int .i64 X.kind, .int .i64 X.num, .slice aX X.kids.length cX] 34)), cellAt_keep HH9.out.2.2 (below1 w9 (.cells #[.int .i64 X.kind, .int .i64 X.num, .slice aX X.kids.length cX] 34))⟩
    refine hK.out _ _ (ph_one (by kernel_rfl) hS1') ?_
    clear hK K hS1
    have hS1 := hS1'
    clear hS1'
    try simp only [Act.put, List.setIfInBounds_toArray, List.set_cons_zero, List.set_cons_succ]
    refine AnyTwo.step (i := 10) (o := { dst := some 9, op := _, type := _, pos := _, after := _, guard := _ }) (by kernel_rfl) rfl (fun K hK => ?_)
    go_simp
    refine hK.out _ _ (ph_end (by kernel_rfl) hS1) ?_
    clear hK K
    try simp only [Act.put, List.setIfInBounds_toArray, List.set_cons_zero, List.set_cons_succ]
    refine AnyTwo.done (by kernel_rfl) ?_ _
    go_wp2_with fail
    go_meet
    exact ⟨w9.heap.size, aX, cX, rfl, rfl, hS1.1, VarAt.new w9 _ _ _, (HW.out.mono (Nat.zero_le _)).below (below1 w9 _)⟩
   ·skip
    go_simp
    have HZ := tuck (show VarAt U23.heap.size 0 0 (.slice none 0 0) (U23.alloc (.cells #[.int .i64 0, .int .i64 0, .slice none 0 0] 34)).drew from VarAt.new U23 0 0 (.slice none 0 0))
    have hS1' : (fun w' : World => Below U23.heap.size U23 w' ∧ (gV < w'.heap.size ∧ w'.cell? ⟨gV, 0, none⟩ = some (.int .i64 T.kind) ∧ w'.cell? ⟨gV, 1, none⟩ = some (.int .i64 T.num) ∧ w'.cell? ⟨gV, 2, none⟩ = some (.slice aV T.kids.length cV)) ∧ (g1 < w'.heap.size ∧ w'.cell? ⟨g1, 0, none⟩ = some (.slice ua n uc))) _ := ⟨(below1 U23 (.cells #[.int .i64 0, .int .i64 0, .slice none 0 0] 34)).drew, BoxAt.below HX.out (below1 U23 (.cells #[.int .i64 0, .int .i64 0, .slice none 0 0] 34)).drew, cellAt_keep HC1.out (below1 U23 (.cells #[.int .i64 0, .int .i64 0, .slice none 0 0] 34)).drew⟩
    refine hK.out _ _ (ph_one (by kernel_rfl) hS1') ?_
    clear hK K hS1
    have hS1 := hS1'
    clear hS1'
    try simp only [Act.put, List.setIfInBounds_toArray, List.set_cons_zero, List.set_cons_succ]
    refine AnyTwo.step (i := 4) (o := { dst := some 48, op := _, type := _, pos := _, after := _, guard := _ }) (by kernel_rfl) rfl (fun K hK => ?_)
    go_simp
    have HGL := tuck HZ.out.facts.1
    refine (HT1.out _ _ _ (HI1.out.below hS1.1) (by obtain ⟨s, e, hs⟩ := HTX.out; exact ⟨s, e, hs.below hS1.1⟩)).mono ?_
    rintro e w9 ⟨hbq, vv, rfl, ss, rfl, hin⟩
    obtain ⟨aX, cX, rfl⟩ := hin.form
    have HW := tuck hin
    clear hin
    have HH9 : Hid ((fun w' : World => Below U23.heap.size U23 w' ∧ (gV < w'.heap.size ∧ w'.cell? ⟨gV, 0, none⟩ = some (.int .i64 T.kind) ∧ w'.cell? ⟨gV, 1, none⟩ = some (.int .i64 T.num) ∧ w'.cell? ⟨gV, 2, none⟩ = some (.slice aV T.kids.length cV)) ∧ (g1 < w'.heap.size ∧ w'.cell? ⟨g1, 0, none⟩ = some (.slice ua n uc))) w9) := tuck (⟨bAfter hS1.1 hbq, BoxAt.below hS1.2.1 hbq, cellAt_keep hS1.2.2 hbq⟩)
    replace HZ := tuck (HZ.out.below hbq)
    obtain ⟨zz, y0, y1, y2, yf⟩ := HZ.out.facts
    have hS1' : (fun w' : World => Below U23.heap.size U23 w' ∧ (gV < w'.heap.size ∧ w'.cell? ⟨gV, 0, none⟩ = some (.int .i64 T.kind) ∧ w'.cell? ⟨gV, 1, none⟩ = some (.int .i64 T.num) ∧ w'.cell? ⟨gV, 2, none⟩ = some (.slice aV T.kids.length cV)) ∧ (g1 < w'.heap.size ∧ w'.cell? ⟨g1, 0, none⟩ = some (.slice ua n uc))) _ := HH9.out
    refine hK.out _ _ (ph_one (by kernel_rfl) hS1') ?_
    clear hK K hS1
    have hS1 := hS1'
    clear hS1'
    try simp only [Act.put, List.setIfInBounds_toArray, List.set_cons_zero, List.set_cons_succ]
    refine AnyTwo.takeAny HT12 (i := 5) (oi := { dst := some 43, op := _, type := _, pos := _, after := _, guard := _ }) (v := ?vfta5) rfl (by kernel_rfl) (by kernel_rfl) (by decide +kernel) (by rfl) (fun _ _ _ h => h) (Or.inl ⟨by rfl, ?yfta5⟩) (ph_one (by kernel_rfl) hS1) ?rfta5
    case yfta5 => (intro w hSw; (try dsimp only at hSw); go_simp; try (with_reducible rfl))
    try simp only [Act.put, List.setIfInBounds_toArray, List.set_cons_zero, List.set_cons_succ]
    refine AnyTwo.takeAny HT12 (i := 6) (oi := { dst := some 49, op := _, type := _, pos := _, after := _, guard := _ }) (v := ?vfta6) rfl (by kernel_rfl) (by kernel_rfl) (by decide +kernel) (by rfl) (fun _ _ _ h => h) (Or.inl ⟨by rfl, ?yfta6⟩) (ph_one (by kernel_rfl) hS1) ?rfta6
    case yfta6 => (intro w hSw; (try dsimp only at hSw); go_simp; try (with_reducible rfl))
    try simp only [Act.put, List.setIfInBounds_toArray, List.set_cons_zero, List.set_cons_succ]
    refine AnyTwo.takeAny HT12 (i := 7) (oi := { dst := some 50, op := _, type := _, pos := _, after := _, guard := _ }) (v := ?vfta7) rfl (by kernel_rfl) (by kernel_rfl) (by decide +kernel) (by rfl) (fun _ _ _ h => h) (Or.inl ⟨by rfl, ?yfta7⟩) (ph_one (by kernel_rfl) hS1) ?rfta7
    case yfta7 => (intro w hSw; (try dsimp only at hSw); go_simp; try (with_reducible rfl))
    try simp only [Act.put, List.setIfInBounds_toArray, List.set_cons_zero, List.set_cons_succ]
    refine AnyTwo.step (i := 9) (o := { dst := none, op := _, type := _, pos := _, after := _, guard := _ }) (by kernel_rfl) rfl (fun K hK => ?_)
    go_simp
    have h9 := hold1T_set3 (w := U23) (w1 := w9) (g := gV) (k := T.kind) (n := T.num) (s := .slice aV T.kids.length cV) (gz := U23.heap.size) (x := .int .i64 X.kind) (y := .int .i64 X.num) (z := .slice aX X.kids.length cX) ⟨HH9.out.1, HH9.out.2.1⟩ (Nat.le_refl _) HXL.out
    have hS1' : (fun w' : World => Below U23.heap.size U23 w' ∧ (gV < w'.heap.size ∧ w'.cell? ⟨gV, 0, none⟩ = some (.int .i64 T.kind) ∧ w'.cell? ⟨gV, 1, none⟩ = some (.int .i64 T.num) ∧ w'.cell? ⟨gV, 2, none⟩ = some (.slice aV T.kids.length cV)) ∧ (g1 < w'.heap.size ∧ w'.cell? ⟨g1, 0, none⟩ = some (.slice ua n uc))) _ := ⟨h9.1, h9.2, cellAt_set3 HH9.out.2.2 HGN.out⟩
    refine hK.out _ _ (ph_one (by kernel_rfl) hS1') ?_
    clear hK K hS1
    have hS1 := hS1'
    clear hS1'
    try simp only [Act.put, List.setIfInBounds_toArray, List.set_cons_zero, List.set_cons_succ]
    clear h9
    refine AnyTwo.step (i := 10) (o := { dst := some 9, op := _, type := _, pos := _, after := _, guard := _ }) (by kernel_rfl) rfl (fun K hK => ?_)
    go_simp
    refine hK.out _ _ (ph_end (by kernel_rfl) hS1) ?_
    clear hK K
    try simp only [Act.put, List.setIfInBounds_toArray, List.set_cons_zero, List.set_cons_succ]
    refine AnyTwo.done (by kernel_rfl) ?_ _
    go_wp2_with fail
    go_meet
    exact ⟨U23.heap.size, aX, cX, rfl, rfl, hS1.1, HZ.out.set3, (tl_sl3 HW.out HGL.out).mono (Nat.zero_le _)⟩
  case rest =>
   obtain ⟨gY, aY, cY, rfl, rfl, hb, hv8, hs8⟩ := hcut
   rename World => W8
   clear HX HTX HT1 HC1 HI1
   replace V := tuck (V.out.below hb)
   replace VX := tuck (VX.out.below hb)
   replace RL := tuck (RL.out.below hb)
   replace HB := tuck (bAfter HB.out hb)
   have VY : Hid (TV gY X aY cY W8) := tuck ⟨hv8, hs8⟩
   clear hv8 hs8 hb
   obtain ⟨zVX, c0VX, c1VX, c2VX, cfVX⟩ := VX.out.facts
   obtain ⟨zVY, c0VY, c1VY, c2VY, cfVY⟩ := VY.out.facts
   go_wp2_with fail
   refine (HTS.out _ _ _ VX.out.tm VY.out.tm).mono ?_
   rintro e u24 ⟨rfl, hb⟩
   clear zVX c0VX c1VX c2VX cfVX zVY c0VY c1VY c2VY cfVY
   replace V := tuck (V.out.below hb)
   replace VX := tuck (VX.out.below hb)
   replace VY := tuck (VY.out.below hb)
   replace RL := tuck (RL.out.below hb)
   replace HB := tuck (bAfter HB.out hb)
   clear hb
   go_wp2_with fail
   go_ret
   exact ⟨rfl, HB.out⟩
 ·skip
  obtain ⟨X, hX⟩ : ∃ X, X = zeroT := ⟨_, rfl⟩
  have HST : Hid (∀ (w : World) (v : Value), TmIn w 0 T v → Calls Tryz.prog 28 #[v] w (CdPost w 2 X)) := fun w v h => by
   have h2 := stepI_f T w v h; rwa [hS, ← hX] at h2
  have HT1 : Hid (∀ (w : World) (v tv : Value), Ints w 0 N n v → TmIn w 0 T tv → Calls Tryz.prog 20 #[tv, v] w (NewPost8 w X false)) := fun w v tv h1 h2 => by
   have h3 := contrAtI_n (N := N) HN.out w v tv h1 h2; rwa [orZero_no hC, tr_not hC, ← hX] at h3
  clear hX hS hC hP hn hz hL
  refine (HIM.out _ _ V.out.tm).mono ?_
  rintro e u21 ⟨hb, lv21, rfl, hq⟩
  obtain ⟨la, lc, rfl⟩ := hq.form
  replace V := tuck (V.out.below hb)
  replace HB := tuck (bAfter HB.out hb)
  have RL := tuck (hq.rowP.base (b' := 0) (Nat.zero_le _))
  clear hb hq
  obtain ⟨zV, c0V, c1V, c2V, cfV⟩ := V.out.facts
  go_wp2_with fail
  refine (HSP.out _ _ V.out.tm).mono ?_
  rintro e u22 ⟨hb, lv22, rfl, hq⟩
  obtain ⟨ma, mc, rfl⟩ := hq.form
  clear zV c0V c1V c2V cfV
  replace V := tuck (V.out.below hb)
  replace RL := tuck (RL.out.below hb)
  replace HB := tuck (bAfter HB.out hb)
  clear hb hq
  obtain ⟨zV, c0V, c1V, c2V, cfV⟩ := V.out.facts
  go_wp2_with fail
  refine (HST.out _ _ V.out.tm).mono ?_
  rintro e u23 ⟨hb, vv, rfl, ss, rfl, hin⟩
  obtain ⟨aVX, cVX, rfl⟩ := hin.form
  clear zV c0V c1V c2V cfV
  replace V := tuck (V.out.below hb)
  replace RL := tuck (RL.out.below hb)
  replace HB := tuck (bAfter HB.out hb)
  have HNVX := tuck hin
  clear hb hin
  obtain ⟨zV, c0V, c1V, c2V, cfV⟩ := V.out.facts
  go_wp2_with fail
  clear zV c0V c1V c2V cfV
  have VX := tuck (TV.new HNVX.out)
  have hb := below1 u23 (.cells #[.int .i64 X.kind, .int .i64 X.num, .slice aVX X.kids.length cVX] 34)
  replace V := tuck (V.out.below hb)
  replace RL := tuck (RL.out.below hb)
  replace HB := tuck (bAfter HB.out hb)
  clear hb HNVX
  generalize u23.alloc (.cells #[.int .i64 X.kind, .int .i64 X.num, .slice aVX X.kids.length cVX] 34) = U23 at *
  generalize u23.heap.size = gVX at *
  obtain ⟨g1, hg1, -, ua, uc, k1, k2, -⟩ := RL.out.at h0
  obtain ⟨rfl, hg1l⟩ := hg1
  rw [← hNn] at k1 k2
  have HI1 := tuck k2.ints
  have HC1 := tuck (show g1 < U23.heap.size ∧ U23.cell? ⟨g1, 0, none⟩ = some (.slice ua n uc) from ⟨hg1l, k1⟩)
  have hlpos : (0 : Int) < (L.length : Int) := by omega
  clear k1 k2 hg1l hNn
  obtain ⟨zV, c0V, c1V, c2V, cfV⟩ := V.out.facts
  go_upto_region 9 with fail
  clear zV c0V c1V c2V cfV
  have HX := tuck (show BoxAt gV T.kind T.num (.slice aV T.kids.length cV) U23 from V.out.var.four)
  have HTX := tuck V.out.tm
  go_cut [8, 9] (fun p0 p1 wx => ∃ (gz : Nat) (aa : Option Addr) (cc : Nat), p0 = .pointer (some ⟨gz, 0, none⟩) ∧ p1 = .bool false ∧ Below U23.heap.size U23 wx ∧ VarAt gz X.kind X.num (.slice aa X.kids.length cc) wx ∧ SlIn wx 0 X.kids (.slice aa X.kids.length cc))
  case first =>
   have HT12 : ∀ w' : World, (fun w' : World => Below U23.heap.size U23 w' ∧ (gV < w'.heap.size ∧ w'.cell? ⟨gV, 0, none⟩ = some (.int .i64 T.kind) ∧ w'.cell? ⟨gV, 1, none⟩ = some (.int .i64 T.num) ∧ w'.cell? ⟨gV, 2, none⟩ = some (.slice aV T.kids.length cV)) ∧ (g1 < w'.heap.size ∧ w'.cell? ⟨g1, 0, none⟩ = some (.slice ua n uc))) w' → (fun w' : World => Below U23.heap.size U23 w' ∧ (gV < w'.heap.size ∧ w'.cell? ⟨gV, 0, none⟩ = some (.int .i64 T.kind) ∧ w'.cell? ⟨gV, 1, none⟩ = some (.int .i64 T.num) ∧ w'.cell? ⟨gV, 2, none⟩ = some (.slice aV T.kids.length cV)) ∧ (g1 < w'.heap.size ∧ w'.cell? ⟨g1, 0, none⟩ = some (.slice ua n uc))) w' := fun w' h => h
   refine AnyTwo.begin (fun w' : World => Below U23.heap.size U23 w' ∧ (gV < w'.heap.size ∧ w'.cell? ⟨gV, 0, none⟩ = some (.int .i64 T.kind) ∧ w'.cell? ⟨gV, 1, none⟩ = some (.int .i64 T.num) ∧ w'.cell? ⟨gV, 2, none⟩ = some (.slice aV T.kids.length cV)) ∧ (g1 < w'.heap.size ∧ w'.cell? ⟨g1, 0, none⟩ = some (.slice ua n uc))) (fun w' : World => Below U23.heap.size U23 w' ∧ (gV < w'.heap.size ∧ w'.cell? ⟨gV, 0, none⟩ = some (.int .i64 T.kind) ∧ w'.cell? ⟨gV, 1, none⟩ = some (.int .i64 T.num) ∧ w'.cell? ⟨gV, 2, none⟩ = some (.slice aV T.kids.length cV)) ∧ (g1 < w'.heap.size ∧ w'.cell? ⟨g1, 0, none⟩ = some (.slice ua n uc))) 10 (by kernel_rfl) ?_
   have hS1 : (fun w' : World => Below U23.heap.size U23 w' ∧ (gV < w'.heap.size ∧ w'.cell? ⟨gV, 0, none⟩ = some (.int .i64 T.kind) ∧ w'.cell? ⟨gV, 1, none⟩ = some (.int .i64 T.num) ∧ w'.cell? ⟨gV, 2, none⟩ = some (.slice aV T.kids.length cV)) ∧ (g1 < w'.heap.size ∧ w'.cell? ⟨g1, 0, none⟩ = some (.slice ua n uc))) U23.drew := ⟨(Below.refl _ _).drew, HX.out, HC1.out⟩
   have HXL : Hid (gV < U23.heap.size) := tuck HX.out.1
   have HGN : Hid (g1 ≠ U23.heap.size) := tuck (Nat.ne_of_lt HC1.out.1)
   refine AnyTwo.takeAny HT12 (i := 0) (oi := { dst := some 44, op := _, type := _, pos := _, after := _, guard := _ }) (v := ?vff0) rfl (by kernel_rfl) (by kernel_rfl) (by decide +kernel) (by rfl) (fun _ _ _ h => h) (Or.inl ⟨by rfl, ?yff0⟩) (ph_one (by kernel_rfl) hS1) ?rff0
   case yff0 => (intro w hSw; (try dsimp only at hSw); go_simp; try (with_reducible rfl))
   try simp only [Act.put, List.setIfInBounds_toArray, List.set_cons_zero, List.set_cons_succ]
   refine AnyTwo.takeAny HT12 (i := 1) (oi := { dst := some 45, op := _, type := _, pos := _, after := _, guard := _ }) (v := ?vff1) rfl (by kernel_rfl) (by kernel_rfl) (by decide +kernel) (by rfl) (fun _ _ _ h => h) (Or.inl ⟨by rfl, ?yff1⟩) (ph_one (by kernel_rfl) hS1) ?rff1
   case yff1 => (intro w hSw; (try dsimp only at hSw); go_simp; try (with_reducible rfl))
   try simp only [Act.put, List.setIfInBounds_toArray, List.set_cons_zero, List.set_cons_succ]
   refine AnyTwo.takeAny HT12 (i := 2) (oi := { dst := some 46, op := _, type := _, pos := _, after := _, guard := _ }) (v := ?vff2) rfl (by kernel_rfl) (by kernel_rfl) (by decide +kernel) (by rfl) (fun _ _ _ h => h) (Or.inl ⟨by rfl, ?yff2⟩) (ph_one (by kernel_rfl) hS1) ?rff2
   case yff2 => (intro w hSw; (try dsimp only at hSw); go_simp; try (with_reducible rfl))
   try simp only [Act.put, List.setIfInBounds_toArray, List.set_cons_zero, List.set_cons_succ]
   refine AnyTwo.takeAny HT12 (i := 3) (oi := { dst := some 47, op := _, type := _, pos := _, after := _, guard := _ }) (v := ?vff3) rfl (by kernel_rfl) (by kernel_rfl) (by decide +kernel) (by rfl) (fun _ _ _ h => h) (Or.inl ⟨by rfl, ?yff3⟩) (ph_one (by kernel_rfl) hS1) ?rff3
   case yff3 => (intro w hSw; (try dsimp only at hSw); go_simp; try (with_reducible rfl))
   try simp only [Act.put, List.setIfInBounds_toArray, List.set_cons_zero, List.set_cons_succ]
   refine AnyTwo.fork (i := 4) (o := { dst := some 48, op := _, type := _, pos := _, after := _, guard := _ }) (j := 8) (o' := { dst := some 8, op := _, type := _, pos := _, after := _, guard := _ }) (by kernel_rfl) rfl rfl (fun K hK => ?_) (fun K hK => ?_)
   ·skip
    go_simp
    refine (HT1.out _ _ _ (HI1.out.below hS1.1) (by obtain ⟨s, e, hs⟩ := HTX.out; exact ⟨s, e, hs.below hS1.1⟩)).mono ?_
    rintro e w9 ⟨hbq, vv, rfl, ss, rfl, hin⟩
    obtain ⟨aX, cX, rfl⟩ := hin.form
    have HW := tuck hin
    clear hin
    have HH9 : Hid ((fun w' : World => Below U23.heap.size U23 w' ∧ (gV < w'.heap.size ∧ w'.cell? ⟨gV, 0, none⟩ = some (.int .i64 T.kind) ∧ w'.cell? ⟨gV, 1, none⟩ = some (.int .i64 T.num) ∧ w'.cell? ⟨gV, 2, none⟩ = some (.slice aV T.kids.length cV)) ∧ (g1 < w'.heap.size ∧ w'.cell? ⟨g1, 0, none⟩ = some (.slice ua n uc))) w9) := tuck (⟨bAfter hS1.1 hbq, BoxAt.below hS1.2.1 hbq, cellAt_keep hS1.2.2 hbq⟩)
    have hS1' : (fun w' : World => Below U23.heap.size U23 w' ∧ (gV < w'.heap.size ∧ w'.cell? ⟨gV, 0, none⟩ = some (.int .i64 T.kind) ∧ w'.cell? ⟨gV, 1, none⟩ = some (.int .i64 T.num) ∧ w'.cell? ⟨gV, 2, none⟩ = some (.slice aV T.kids.length cV)) ∧ (g1 < w'.heap.size ∧ w'.cell? ⟨g1, 0, none⟩ = some (.slice ua n uc))) _ := HH9.out
    refine hK.out _ _ (ph_one (by kernel_rfl) hS1') ?_
    clear hK K hS1
    have hS1 := hS1'
    clear hS1'
    try simp only [Act.put, List.setIfInBounds_toArray, List.set_cons_zero, List.set_cons_succ]
    refine AnyTwo.takeAny HT12 (i := 5) (oi := { dst := some 43, op := _, type := _, pos := _, after := _, guard := _ }) (v := ?vffc5) rfl (by kernel_rfl) (by kernel_rfl) (by decide +kernel) (by rfl) (fun _ _ _ h => h) (Or.inl ⟨by rfl, ?yffc5⟩) (ph_one (by kernel_rfl) hS1) ?rffc5
    case yffc5 => (intro w hSw; (try dsimp only at hSw); go_simp; try (with_reducible rfl))
    try simp only [Act.put, List.setIfInBounds_toArray, List.set_cons_zero, List.set_cons_succ]
    refine AnyTwo.takeAny HT12 (i := 6) (oi := { dst := some 49, op := _, type := _, pos := _, after := _, guard := _ }) (v := ?vffc6) rfl (by kernel_rfl) (by kernel_rfl) (by decide +kernel) (by rfl) (fun _ _ _ h => h) (Or.inl ⟨by rfl, ?yffc6⟩) (ph_one (by kernel_rfl) hS1) ?rffc6
    case yffc6 => (intro w hSw; (try dsimp only at hSw); go_simp; try (with_reducible rfl))
    try simp only [Act.put, List.setIfInBounds_toArray, List.set_cons_zero, List.set_cons_succ]
    refine AnyTwo.takeAny HT12 (i := 7) (oi := { dst := some 50, op := _, type := _, pos := _, after := _, guard := _ }) (v := ?vffc7) rfl (by kernel_rfl) (by kernel_rfl) (by decide +kernel) (by rfl) (fun _ _ _ h => h) (Or.inl ⟨by rfl, ?yffc7⟩) (ph_one (by kernel_rfl) hS1) ?rffc7
    case yffc7 => (intro w hSw; (try dsimp only at hSw); go_simp; try (with_reducible rfl))
    try simp only [Act.put, List.setIfInBounds_toArray, List.set_cons_zero, List.set_cons_succ]
    refine AnyTwo.step (i := 8) (o := { dst := some 8, op := _, type := _, pos := _, after := _, guard := _ }) (by kernel_rfl) rfl (fun K hK => ?_)
    go_simp
    have HZ0 := tuck (show U23.heap.size ≤ w9.heap.size from hS1.1.size)
    have hS1' : (fun w' : World => Below U23.heap.size U23 w' ∧ (gV < w'.heap.size ∧ w'.cell? ⟨gV, 0, none⟩ = some (.int .i64 T.kind) ∧ w'.cell? ⟨gV, 1, none⟩ = some (.int .i64 T.num) ∧ w'.cell? ⟨gV, 2, none⟩ = some (.slice aV T.kids.length cV)) ∧ (g1 < w'.heap.size ∧ w'.cell? ⟨g1, 0, none⟩ = some (.slice ua n uc))) _ := ⟨bAfter HH9.out.1 (below1 w9 (.cells #[.int .i64 0, .int .i64 0, .slice none 0 0] 34)), BoxAt.below HH9.out.2.1 (below1 w9 (.cells #[.int .i64 0, .int .i64 0, .slice none 0 0] 34)), cellAt_keep HH9.out.2.2 (below1 w9 (.cells #[.int .i64 0, .int .i64 0, .slice none 0 0] 34))⟩
    refine hK.out _ _ (ph_one (by kernel_rfl) hS1') ?_
    clear hK K hS1
    have hS1 := hS1'
    clear hS1'
    try simp only [Act.put, List.setIfInBounds_toArray, List.set_cons_zero, List.set_cons_succ]
    refine AnyTwo.step (i := 9) (o := { dst := none, op := _, type := _, pos := _, after := _, guard := _ }) (by kernel_rfl) rfl (fun K hK => ?_)
    go_simp
    have hS1' : (fun w' : World => Below U23.heap.size U23 w' ∧ (gV < w'.heap.size ∧ w'.cell? ⟨gV, 0, none⟩ = some (.int .i64 T.kind) ∧ w'.cell? ⟨gV, 1, none⟩ = some (.int .i64 T.num) ∧ w'.cell? ⟨gV, 2, none⟩ = some (.slice aV T.kids.length cV)) ∧ (g1 < w'.heap.size ∧ w'.cell? ⟨g1, 0, none⟩ = some (.slice ua n uc))) _ := ⟨bAfter HH9.out.1 (below1 w9 (.cells #[.int .i64 X.kind, .int .i64 X.num, .slice aX X.kids.length cX] 34)), BoxAt.below HH9.out.2.1 (below1 w9 (.cells #[.int .i64 X.kind, .int .i64 X.num, .slice aX X.kids.length cX] 34)), cellAt_keep HH9.out.2.2 (below1 w9 (.cells #[.int .i64 X.kind, .int .i64 X.num, .slice aX X.kids.length cX] 34))⟩
    refine hK.out _ _ (ph_one (by kernel_rfl) hS1') ?_
    clear hK K hS1
    have hS1 := hS1'
    clear hS1'
    try simp only [Act.put, List.setIfInBounds_toArray, List.set_cons_zero, List.set_cons_succ]
    refine AnyTwo.step (i := 10) (o := { dst := some 9, op := _, type := _, pos := _, after := _, guard := _ }) (by kernel_rfl) rfl (fun K hK => ?_)
    go_simp
    refine hK.out _ _ (ph_end (by kernel_rfl) hS1) ?_
    clear hK K
    try simp only [Act.put, List.setIfInBounds_toArray, List.set_cons_zero, List.set_cons_succ]
    refine AnyTwo.done (by kernel_rfl) ?_ _
    go_wp2_with fail
    go_meet
    exact ⟨w9.heap.size, aX, cX, rfl, rfl, hS1.1, VarAt.new w9 _ _ _, (HW.out.mono (Nat.zero_le _)).below (below1 w9 _)⟩
   ·skip
    go_simp
    have HZ := tuck (show VarAt U23.heap.size 0 0 (.slice none 0 0) (U23.alloc (.cells #[.int .i64 0, .int .i64 0, .slice none 0 0] 34)).drew from VarAt.new U23 0 0 (.slice none 0 0))
    have hS1' : (fun w' : World => Below U23.heap.size U23 w' ∧ (gV < w'.heap.size ∧ w'.cell? ⟨gV, 0, none⟩ = some (.int .i64 T.kind) ∧ w'.cell? ⟨gV, 1, none⟩ = some (.int .i64 T.num) ∧ w'.cell? ⟨gV, 2, none⟩ = some (.slice aV T.kids.length cV)) ∧ (g1 < w'.heap.size ∧ w'.cell? ⟨g1, 0, none⟩ = some (.slice ua n uc))) _ := ⟨(below1 U23 (.cells #[.int .i64 0, .int .i64 0, .slice none 0 0] 34)).drew, BoxAt.below HX.out (below1 U23 (.cells #[.int .i64 0, .int .i64 0, .slice none 0 0] 34)).drew, cellAt_keep HC1.out (below1 U23 (.cells #[.int .i64 0, .int .i64 0, .slice none 0 0] 34)).drew⟩
    refine hK.out _ _ (ph_one (by kernel_rfl) hS1') ?_
    clear hK K hS1
    have hS1 := hS1'
    clear hS1'
    try simp only [Act.put, List.setIfInBounds_toArray, List.set_cons_zero, List.set_cons_succ]
    refine AnyTwo.step (i := 4) (o := { dst := some 48, op := _, type := _, pos := _, after := _, guard := _ }) (by kernel_rfl) rfl (fun K hK => ?_)
    go_simp
    have HGL := tuck HZ.out.facts.1
    refine (HT1.out _ _ _ (HI1.out.below hS1.1) (by obtain ⟨s, e, hs⟩ := HTX.out; exact ⟨s, e, hs.below hS1.1⟩)).mono ?_
    rintro e w9 ⟨hbq, vv, rfl, ss, rfl, hin⟩
    obtain ⟨aX, cX, rfl⟩ := hin.form
    have HW := tuck hin
    clear hin
    have HH9 : Hid ((fun w' : World => Below U23.heap.size U23 w' ∧ (gV < w'.heap.size ∧ w'.cell? ⟨gV, 0, none⟩ = some (.int .i64 T.kind) ∧ w'.cell? ⟨gV, 1, none⟩ = some (.int .i64 T.num) ∧ w'.cell? ⟨gV, 2, none⟩ = some (.slice aV T.kids.length cV)) ∧ (g1 < w'.heap.size ∧ w'.cell? ⟨g1, 0, none⟩ = some (.slice ua n uc))) w9) := tuck (⟨bAfter hS1.1 hbq, BoxAt.below hS1.2.1 hbq, cellAt_keep hS1.2.2 hbq⟩)
    replace HZ := tuck (HZ.out.below hbq)
    obtain ⟨zz, y0, y1, y2, yf⟩ := HZ.out.facts
    have hS1' : (fun w' : World => Below U23.heap.size U23 w' ∧ (gV < w'.heap.size ∧ w'.cell? ⟨gV, 0, none⟩ = some (.int .i64 T.kind) ∧ w'.cell? ⟨gV, 1, none⟩ = some (.int .i64 T.num) ∧ w'.cell? ⟨gV, 2, none⟩ = some (.slice aV T.kids.length cV)) ∧ (g1 < w'.heap.size ∧ w'.cell? ⟨g1, 0, none⟩ = some (.slice ua n uc))) _ := HH9.out
    refine hK.out _ _ (ph_one (by kernel_rfl) hS1') ?_
    clear hK K hS1
    have hS1 := hS1'
    clear hS1'
    try simp only [Act.put, List.setIfInBounds_toArray, List.set_cons_zero, List.set_cons_succ]
    refine AnyTwo.takeAny HT12 (i := 5) (oi := { dst := some 43, op := _, type := _, pos := _, after := _, guard := _ }) (v := ?vffa5) rfl (by kernel_rfl) (by kernel_rfl) (by decide +kernel) (by rfl) (fun _ _ _ h => h) (Or.inl ⟨by rfl, ?yffa5⟩) (ph_one (by kernel_rfl) hS1) ?rffa5
    case yffa5 => (intro w hSw; (try dsimp only at hSw); go_simp; try (with_reducible rfl))
    try simp only [Act.put, List.setIfInBounds_toArray, List.set_cons_zero, List.set_cons_succ]
    refine AnyTwo.takeAny HT12 (i := 6) (oi := { dst := some 49, op := _, type := _, pos := _, after := _, guard := _ }) (v := ?vffa6) rfl (by kernel_rfl) (by kernel_rfl) (by decide +kernel) (by rfl) (fun _ _ _ h => h) (Or.inl ⟨by rfl, ?yffa6⟩) (ph_one (by kernel_rfl) hS1) ?rffa6
    case yffa6 => (intro w hSw; (try dsimp only at hSw); go_simp; try (with_reducible rfl))
    try simp only [Act.put, List.setIfInBounds_toArray, List.set_cons_zero, List.set_cons_succ]
    refine AnyTwo.takeAny HT12 (i := 7) (oi := { dst := some 50, op := _, type := _, pos := _, after := _, guard := _ }) (v := ?vffa7) rfl (by kernel_rfl) (by kernel_rfl) (by decide +kernel) (by rfl) (fun _ _ _ h => h) (Or.inl ⟨by rfl, ?yffa7⟩) (ph_one (by kernel_rfl) hS1) ?rffa7
    case yffa7 => (intro w hSw; (try dsimp only at hSw); go_simp; try (with_reducible rfl))
    try simp only [Act.put, List.setIfInBounds_toArray, List.set_cons_zero, List.set_cons_succ]
    refine AnyTwo.step (i := 9) (o := { dst := none, op := _, type := _, pos := _, after := _, guard := _ }) (by kernel_rfl) rfl (fun K hK => ?_)
    go_simp
    have h9 := hold1T_set3 (w := U23) (w1 := w9) (g := gV) (k := T.kind) (n := T.num) (s := .slice aV T.kids.length cV) (gz := U23.heap.size) (x := .int .i64 X.kind) (y := .int .i64 X.num) (z := .slice aX X.kids.length cX) ⟨HH9.out.1, HH9.out.2.1⟩ (Nat.le_refl _) HXL.out
    have hS1' : (fun w' : World => Below U23.heap.size U23 w' ∧ (gV < w'.heap.size ∧ w'.cell? ⟨gV, 0, none⟩ = some (.int .i64 T.kind) ∧ w'.cell? ⟨gV, 1, none⟩ = some (.int .i64 T.num) ∧ w'.cell? ⟨gV, 2, none⟩ = some (.slice aV T.kids.length cV)) ∧ (g1 < w'.heap.size ∧ w'.cell? ⟨g1, 0, none⟩ = some (.slice ua n uc))) _ := ⟨h9.1, h9.2, cellAt_set3 HH9.out.2.2 HGN.out⟩
    refine hK.out _ _ (ph_one (by kernel_rfl) hS1') ?_
    clear hK K hS1
    have hS1 := hS1'
    clear hS1'
    try simp only [Act.put, List.setIfInBounds_toArray, List.set_cons_zero, List.set_cons_succ]
    clear h9
    refine AnyTwo.step (i := 10) (o := { dst := some 9, op := _, type := _, pos := _, after := _, guard := _ }) (by kernel_rfl) rfl (fun K hK => ?_)
    go_simp
    refine hK.out _ _ (ph_end (by kernel_rfl) hS1) ?_
    clear hK K
    try simp only [Act.put, List.setIfInBounds_toArray, List.set_cons_zero, List.set_cons_succ]
    refine AnyTwo.done (by kernel_rfl) ?_ _
    go_wp2_with fail
    go_meet
    exact ⟨U23.heap.size, aX, cX, rfl, rfl, hS1.1, HZ.out.set3, (tl_sl3 HW.out HGL.out).mono (Nat.zero_le _)⟩
  case rest =>
   obtain ⟨gY, aY, cY, rfl, rfl, hb, hv8, hs8⟩ := hcut
   rename World => W8
   clear HX HTX HT1 HC1 HI1
   replace V := tuck (V.out.below hb)
   replace VX := tuck (VX.out.below hb)
   replace RL := tuck (RL.out.below hb)
   replace HB := tuck (bAfter HB.out hb)
   have VY : Hid (TV gY X aY cY W8) := tuck ⟨hv8, hs8⟩
   clear hv8 hs8 hb
   go_wp2_with fail
   go_ret
   exact ⟨rfl, HB.out⟩
set_option maxRecDepth 100000 in
theorem lifted (os : Os) (started : os.Started) (H : Type) (enc : TypeId × Value → H) :
  ReturnsInHanded {} Tryz.checked os 5 .any (Rows.fnFirstRedexSpec.pre6 enc Tryz.prog Tryz.f5 Rows.fnFirstRedexRow.domain false) (Rows.fnFirstRedexSpec.post enc Tryz.prog Tryz.f5 false true false false) := by
 refine returnsInHanded_of_change (C := Tryz.checked) own started (by kernel_rfl) Tryz.func5
  (ChangeSpec.witness6 (enc := enc) (C := Tryz.checked) false ⟨#[], #[.slice none 0 0], []⟩ 8 (by kernel_rfl) (by kernel_rfl) (by kernel_rfl) (by kernel_rfl)) ?_
 intro W base args ds gs before hval0 hW hcnd _
 have hval : ∀ (j : Nat) t v, Tryz.f5.params[j]? = some t → args[j]? = some v → Value.okWide Tryz.prog W .any base t v := hval0
 have hW' := hW
 obtain ⟨p, q, hA0, hV, rfl, hfz, hnd⟩ := hW
 have hA : DataW.TrodAll enc Tryz.prog W 0 (fun _ => true) true Tryz.f5.params.toList args.toList ds p := hA0
 rw [Tryz.params5] at hA hval
 obtain ⟨v0, vs0, d0, ds0, p0, q0, hargs, rfl, rfl, h0, r0⟩ := trodAll_cons hA
 obtain ⟨rfl, rfl, rfl⟩ := trodAll_nil r0
 obtain rfl : args = #[v0] := by cases args; simp_all
 obtain ⟨U0, ad0, bb0, oo0, len0, cap0, rfl, hlc0, hcm0, hbl0, hby0⟩ := open_bytes (hval 0 43 v0 rfl rfl) h0
 refine (walk U0 ad0 bb0 oo0 len0 cap0 W hlc0 hcm0 hby0).mono fun e W' ⟨he, hb⟩ => ?_
 subst he
 exact ⟨_, rfl, law_post rfl rfl (fun gs h => by subst h; rfl) (by rw [Tryz.params5]; exact readable_FnFirstRedex) laid hW' hb⟩
theorem over : Rows.fnFirstRedexRow.holds Tryz.pinned (OpenSpec.ofChange Rows.fnFirstRedexSpec) :=
 OpenClaim.holds_of_wide 5 Tryz.f5 rfl rfl rfl rfl rfl rfl rfl ⟨rfl, rfl, rfl, rfl, rfl⟩ rfl rfl rfl rfl rfl (by kernel_rfl) Tryz.func5 (by kernel_rfl)
  (of_decide_eq_true (by kernel_rfl)) (by unfold Func.isWrapper; first | (rw [if_pos (by decide +kernel)]; kernel_rfl) | (rw [if_neg (by decide +kernel)]; exact ⟨rfl, rfl⟩))
  (fun os started H enc _ => lifted os started H enc)
theorem proved : Rows.FnFirstRedexSaid :=
 over
end Go.Proofs.YtpddjebdncaceaaGreat.fnFirstRedex
