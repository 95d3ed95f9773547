/-
  The law FnNormalPlaces: whatever the bytes, a term is normal exactly if no place has a redex.
-/
import Derived.Test.YtihlbbbajaepoaaGreatQ08
import Derived.Test.YtihlbbbajaepoaaGreatQ37
import Derived.Test.YtihlbbbajaepoaaGreatQ49
import Derived.Test.YtihlbbbajaepoaaGreatQ52
import Derived.Test.YtihlbbbajaepoaaGreatQ53
import Derived.IntWalk
namespace Go.Proofs.YtihlbbbajaepoaaGreat.fnNormalPlaces
open Go.ChangeShapes Go.WideShapes Go.ChangeAt Go.RowKit Go.Deep
set_option linter.unusedVariables false
theorem readable_FnNormalPlaces : ∀ t ∈ (#[43] : Array TypeId).toList, Tryz.prog.readableRec t = true ∧ t < Tryz.prog.types.size := by
 intro t ht
 simp at ht
 subst ht
 exact ⟨by kernel_rfl, of_decide_eq_true (by kernel_rfl)⟩
theorem laid : laidOutB Tryz.prog = true := by kernel_rfl
set_option maxRecDepth 100000 in
set_option maxHeartbeats 1600000 in
theorem walk (U : Nat → Int) (a : Option Addr) (b o len cap : Nat) (w : World) (hlc : len ≤ cap) (hcm : cap ≤ maxLen) (hby : Bytes U a b o len w) : Calls Tryz.prog 8 #[.slice a len cap] w fun e w' => e = .returned (.bool true) ∧ Below w.heap.size w w' := by
 unfold maxLen at hcm
 by_cases hl : 1048576 < len
 ·have hl' : (1048576 : Int) < (len : Int) := by omega
  clear hby
  go_enter Tryz.func8, Tryz.ntmps8
  go_wp2
  go_ret
  exact ⟨rfl, Below.refl _ _⟩
 have hl' : ¬ (1048576 : Int) < (len : Int) := by omega
 have HD := tuck (dRedexPlaces_any w (by omega) hlc hby)
 clear hby
 go_enter Tryz.func8, Tryz.ntmps8
 go_wp2_with fail
 refine HD.out.mono ?_
 rintro e w1 ⟨T, v, rfl, ⟨s, rfl, hin⟩, hsz, hb⟩
 obtain ⟨aV, cV, rfl⟩ := hin.form
 have V := tuck (TV.new (hin.mono (Nat.zero_le _)))
 have HB := tuck (bAfter hb (below1 w1 (.cells #[.int .i64 T.kind, .int .i64 T.num, .slice aV T.kids.length cV] 34)))
 have HSZ : Hid (sizes T.kids ≤ 1048576) := tuck (by have := T.size_eq; omega)
 clear hin hb HD hsz
 go_wp2_with fail
 generalize w1.alloc (.cells #[.int .i64 T.kind, .int .i64 T.num, .slice aV T.kids.length cV] 34) = U0 at *
 generalize w1.heap.size = gV at *
 obtain ⟨L, hL⟩ : ∃ L, L = placesP true T := ⟨_, rfl⟩
 have HIM : Hid (∀ (w : World) (v : Value), TmIn w 0 T v → Calls Tryz.prog 36 #[v] w (LOwn w L)) := fun w v h => by
  rw [hL]; exact redexPlacesI_any T w v h
 have HSP : Hid (∀ (w : World) (v : Value), TmIn w 0 T v → Calls Tryz.prog 37 #[v] w (LPost w L)) := fun w v h => by
  rw [hL]; exact redexPlacesS_any T w v h
 have hlr : (L.length : Int) = redsOf T := by rw [hL]; exact placesP_reds T
 have hle : L.length ≤ 1000 := by rw [hL]; exact placesP_len true T
 by_cases hv : T.Valid
 rotate_left
 ·skip
  have hl0 : L.length = 0 := by rw [hL]; unfold placesP; rw [if_neg hv]; rfl
  have HNT : Hid (∀ (w : World) (v : Value), TmIn w 0 T v → Calls Tryz.prog 41 #[v] w (BoolPost w false)) := fun w v h => by
   have h2 := normalI_any T w v h; rwa [show normalOf T = false from tr_not fun h => hv h.1] at h2
  have HTV : Hid (∀ (w : World) (v : Value), TmIn w 0 T v → Calls Tryz.prog 42 #[v] w (BoolPost w false)) := fun w v h => by
   have h2 := validI_any T w v h; rwa [tr_not hv] at h2
  clear hL hlr hv hl0
  refine (HIM.out _ _ V.out.tm).mono ?_
  rintro e u21 ⟨hb, lv, rfl, hq⟩
  obtain ⟨la, lc, rfl⟩ := hq.form
  replace V := tuck (V.out.below hb)
  replace HB := tuck (bAfter HB.out hb)
  clear hb hq
  obtain ⟨zV, c0V, c1V, c2V, cfV⟩ := V.out.facts
  go_upto_region 5 with fail
  clear zV c0V c1V c2V cfV
  have HT12 : ∀ w' : World, ((fun w' => Below u21.heap.size u21 w' ∧ (gV < w'.heap.size ∧ w'.cell? ⟨gV, 0, none⟩ = some (.int .i64 T.kind) ∧ w'.cell? ⟨gV, 1, none⟩ = some (.int .i64 T.num) ∧ w'.cell? ⟨gV, 2, none⟩ = some (.slice aV T.kids.length cV)))) w' → ((fun w' => Below u21.heap.size u21 w' ∧ (gV < w'.heap.size ∧ w'.cell? ⟨gV, 0, none⟩ = some (.int .i64 T.kind) ∧ w'.cell? ⟨gV, 1, none⟩ = some (.int .i64 T.num) ∧ w'.cell? ⟨gV, 2, none⟩ = some (.slice aV T.kids.length cV)))) w' := fun w' h => h
  refine AnyTwo.begin ((fun w' => Below u21.heap.size u21 w' ∧ (gV < w'.heap.size ∧ w'.cell? ⟨gV, 0, none⟩ = some (.int .i64 T.kind) ∧ w'.cell? ⟨gV, 1, none⟩ = some (.int .i64 T.num) ∧ w'.cell? ⟨gV, 2, none⟩ = some (.slice aV T.kids.length cV)))) ((fun w' => Below u21.heap.size u21 w' ∧ (gV < w'.heap.size ∧ w'.cell? ⟨gV, 0, none⟩ = some (.int .i64 T.kind) ∧ w'.cell? ⟨gV, 1, none⟩ = some (.int .i64 T.num) ∧ w'.cell? ⟨gV, 2, none⟩ = some (.slice aV T.kids.length cV)))) 18 (by kernel_rfl) ?_
  have hS1 : ((fun w' => Below u21.heap.size u21 w' ∧ (gV < w'.heap.size ∧ w'.cell? ⟨gV, 0, none⟩ = some (.int .i64 T.kind) ∧ w'.cell? ⟨gV, 1, none⟩ = some (.int .i64 T.num) ∧ w'.cell? ⟨gV, 2, none⟩ = some (.slice aV T.kids.length cV)))) _ := ⟨(Below.refl _ _).drew, V.out.var.four⟩
  refine AnyTwo.takeAny HT12 (i := 0) (oi := { dst := some 12, op := _, type := _, pos := _, after := _, guard := _ }) (v := ?vzn1) rfl (by kernel_rfl) (by kernel_rfl) (by decide +kernel) (by rfl) (fun _ _ _ h => h) (Or.inl ⟨by rfl, ?yzn1⟩) (ph_one (by kernel_rfl) hS1) ?rzn1
  case yzn1 => (intro w hSw; (try dsimp only at hSw); go_simp; try (with_reducible rfl))
  try simp only [Act.put, List.setIfInBounds_toArray, List.set_cons_zero, List.set_cons_succ]
  refine AnyTwo.takeAny HT12 (i := 1) (oi := { dst := some 13, op := _, type := _, pos := _, after := _, guard := _ }) (v := ?vzn2) rfl (by kernel_rfl) (by kernel_rfl) (by decide +kernel) (by rfl) (fun _ _ _ h => h) (Or.inl ⟨by rfl, ?yzn2⟩) (ph_one (by kernel_rfl) hS1) ?rzn2
  case yzn2 => (intro w hSw; (try dsimp only at hSw); go_simp; try (with_reducible rfl))
  try simp only [Act.put, List.setIfInBounds_toArray, List.set_cons_zero, List.set_cons_succ]
  refine AnyTwo.takeAny HT12 (i := 2) (oi := { dst := some 14, op := _, type := _, pos := _, after := _, guard := _ }) (v := ?vzn3) rfl (by kernel_rfl) (by kernel_rfl) (by decide +kernel) (by rfl) (fun _ _ _ h => h) (Or.inl ⟨by rfl, ?yzn3⟩) (ph_one (by kernel_rfl) hS1) ?rzn3
  case yzn3 => (intro w hSw; (try dsimp only at hSw); go_simp; try (with_reducible rfl))
  try simp only [Act.put, List.setIfInBounds_toArray, List.set_cons_zero, List.set_cons_succ]
  refine AnyTwo.step (i := 3) (o := { dst := some 15, op := _, type := _, pos := _, after := _, guard := _ }) (by kernel_rfl) rfl (fun K hK => ?_)
  go_simp
  refine (HSP.out _ _ ⟨_, rfl, V.out.sl.below hS1.1⟩).mono ?_
  rintro e w7 ⟨hb7, lv7, rfl, hq7⟩
  obtain ⟨la7, lc7, rfl⟩ := hq7.form
  have hS1' : ((fun w' => Below u21.heap.size u21 w' ∧ (gV < w'.heap.size ∧ w'.cell? ⟨gV, 0, none⟩ = some (.int .i64 T.kind) ∧ w'.cell? ⟨gV, 1, none⟩ = some (.int .i64 T.num) ∧ w'.cell? ⟨gV, 2, none⟩ = some (.slice aV T.kids.length cV)))) _ := ⟨bAfter hS1.1 hb7, BoxAt.below hS1.2 hb7⟩
  refine hK.out _ _ (ph_one (by kernel_rfl) hS1') ?_
  clear hK K hS1
  have hS1 := hS1'
  clear hS1'
  try simp only [Act.put, List.setIfInBounds_toArray, List.set_cons_zero, List.set_cons_succ]
  refine AnyTwo.takeAny HT12 (i := 4) (oi := { dst := some 16, op := _, type := _, pos := _, after := _, guard := _ }) (v := ?vzn4) rfl (by kernel_rfl) (by kernel_rfl) (by decide +kernel) (by rfl) (fun _ _ _ h => h) (Or.inl ⟨by rfl, ?yzn4⟩) (ph_one (by kernel_rfl) hS1) ?rzn4
  case yzn4 => (intro w hSw; (try dsimp only at hSw); go_simp; try (with_reducible rfl))
  try simp only [Act.put, List.setIfInBounds_toArray, List.set_cons_zero, List.set_cons_succ]
  refine AnyTwo.takeAny HT12 (i := 5) (oi := { dst := some 17, op := _, type := _, pos := _, after := _, guard := _ }) (v := .bool true) rfl (by kernel_rfl) (by kernel_rfl) (by decide +kernel) (by rfl) (fun _ _ _ h => h) (Or.inl ⟨by rfl, ?yzn5⟩) (ph_one (by kernel_rfl) hS1) ?rzn5
  case yzn5 => (intro w hSw; (try dsimp only at hSw); go_simp; try simp [*])
  try simp only [Act.put, List.setIfInBounds_toArray, List.set_cons_zero, List.set_cons_succ]
  refine AnyTwo.takeAny HT12 (i := 6) (oi := { dst := some 18, op := _, type := _, pos := _, after := _, guard := _ }) (v := ?vzn6) rfl (by kernel_rfl) (by kernel_rfl) (by decide +kernel) (by rfl) (fun _ _ _ h => h) (Or.inl ⟨by rfl, ?yzn6⟩) (ph_one (by kernel_rfl) hS1) ?rzn6
  case yzn6 => (intro w hSw; (try dsimp only at hSw); go_simp; try (with_reducible rfl))
  try simp only [Act.put, List.setIfInBounds_toArray, List.set_cons_zero, List.set_cons_succ]
  refine AnyTwo.takeAny HT12 (i := 7) (oi := { dst := some 19, op := _, type := _, pos := _, after := _, guard := _ }) (v := ?vzn7) rfl (by kernel_rfl) (by kernel_rfl) (by decide +kernel) (by rfl) (fun _ _ _ h => h) (Or.inl ⟨by rfl, ?yzn7⟩) (ph_one (by kernel_rfl) hS1) ?rzn7
  case yzn7 => (intro w hSw; (try dsimp only at hSw); go_simp; try (with_reducible rfl))
  try simp only [Act.put, List.setIfInBounds_toArray, List.set_cons_zero, List.set_cons_succ]
  refine AnyTwo.takeAny HT12 (i := 9) (oi := { dst := some 21, op := _, type := _, pos := _, after := _, guard := _ }) (v := ?vzn8) rfl (by kernel_rfl) (by kernel_rfl) (by decide +kernel) (by rfl) (fun _ _ _ h => h) (Or.inl ⟨by rfl, ?yzn8⟩) (ph_one (by kernel_rfl) hS1) ?rzn8
  case yzn8 => (intro w hSw; (try dsimp only at hSw); go_simp; try (with_reducible rfl))
  try simp only [Act.put, List.setIfInBounds_toArray, List.set_cons_zero, List.set_cons_succ]
  refine AnyTwo.step (i := 8) (o := { dst := some 20, op := _, type := _, pos := _, after := _, guard := _ }) (by kernel_rfl) rfl (fun K hK => ?_)
  go_simp
  refine (HNT.out _ _ ⟨_, rfl, V.out.sl.below hS1.1⟩).mono ?_
  rintro e w7 ⟨rfl, hb7⟩
  have hS1' : ((fun w' => Below u21.heap.size u21 w' ∧ (gV < w'.heap.size ∧ w'.cell? ⟨gV, 0, none⟩ = some (.int .i64 T.kind) ∧ w'.cell? ⟨gV, 1, none⟩ = some (.int .i64 T.num) ∧ w'.cell? ⟨gV, 2, none⟩ = some (.slice aV T.kids.length cV)))) _ := ⟨bAfter hS1.1 hb7, BoxAt.below hS1.2 hb7⟩
  refine hK.out _ _ (ph_one (by kernel_rfl) hS1') ?_
  clear hK K hS1
  have hS1 := hS1'
  clear hS1'
  try simp only [Act.put, List.setIfInBounds_toArray, List.set_cons_zero, List.set_cons_succ]
  refine AnyTwo.step (i := 10) (o := { dst := some 22, op := _, type := _, pos := _, after := _, guard := _ }) (by kernel_rfl) rfl (fun K hK => ?_)
  go_simp
  refine (HTV.out _ _ ⟨_, rfl, V.out.sl.below hS1.1⟩).mono ?_
  rintro e w7 ⟨rfl, hb7⟩
  have hS1' : ((fun w' => Below u21.heap.size u21 w' ∧ (gV < w'.heap.size ∧ w'.cell? ⟨gV, 0, none⟩ = some (.int .i64 T.kind) ∧ w'.cell? ⟨gV, 1, none⟩ = some (.int .i64 T.num) ∧ w'.cell? ⟨gV, 2, none⟩ = some (.slice aV T.kids.length cV)))) _ := ⟨bAfter hS1.1 hb7, BoxAt.below hS1.2 hb7⟩
  refine hK.out _ _ (ph_one (by kernel_rfl) hS1') ?_
  clear hK K hS1
  have hS1 := hS1'
  clear hS1'
  try simp only [Act.put, List.setIfInBounds_toArray, List.set_cons_zero, List.set_cons_succ]
  refine AnyTwo.takeAny HT12 (i := 11) (oi := { dst := some 23, op := _, type := _, pos := _, after := _, guard := _ }) (v := ?vzn9) rfl (by kernel_rfl) (by kernel_rfl) (by decide +kernel) (by rfl) (fun _ _ _ h => h) (Or.inl ⟨by rfl, ?yzn9⟩) (ph_one (by kernel_rfl) hS1) ?rzn9
  case yzn9 => (intro w hSw; (try dsimp only at hSw); go_simp; try (with_reducible rfl))
  try simp only [Act.put, List.setIfInBounds_toArray, List.set_cons_zero, List.set_cons_succ]
  refine AnyTwo.takeAny HT12 (i := 12) (oi := { dst := some 24, op := _, type := _, pos := _, after := _, guard := _ }) (v := undef) rfl (by kernel_rfl) (by kernel_rfl) (by decide +kernel) (by rfl) (fun _ _ _ h => h) (Or.inr ⟨by rfl, rfl⟩) (ph_one (by kernel_rfl) hS1) ?rzn10
  try simp only [Act.put, List.setIfInBounds_toArray, List.set_cons_zero, List.set_cons_succ]
  refine AnyTwo.takeAny HT12 (i := 13) (oi := { dst := some 25, op := _, type := _, pos := _, after := _, guard := _ }) (v := undef) rfl (by kernel_rfl) (by kernel_rfl) (by decide +kernel) (by rfl) (fun _ _ _ h => h) (Or.inr ⟨by rfl, rfl⟩) (ph_one (by kernel_rfl) hS1) ?rzn11
  try simp only [Act.put, List.setIfInBounds_toArray, List.set_cons_zero, List.set_cons_succ]
  refine AnyTwo.takeAny HT12 (i := 14) (oi := { dst := some 26, op := _, type := _, pos := _, after := _, guard := _ }) (v := undef) rfl (by kernel_rfl) (by kernel_rfl) (by decide +kernel) (by rfl) (fun _ _ _ h => h) (Or.inr ⟨by rfl, rfl⟩) (ph_one (by kernel_rfl) hS1) ?rzn12
  try simp only [Act.put, List.setIfInBounds_toArray, List.set_cons_zero, List.set_cons_succ]
  refine AnyTwo.takeAny HT12 (i := 15) (oi := { dst := some 27, op := _, type := _, pos := _, after := _, guard := _ }) (v := ?vzn13) rfl (by kernel_rfl) (by kernel_rfl) (by decide +kernel) (by rfl) (fun _ _ _ h => h) (Or.inl ⟨by rfl, ?yzn13⟩) (ph_one (by kernel_rfl) hS1) ?rzn13
  case yzn13 => (intro w hSw; (try dsimp only at hSw); go_simp; try (with_reducible rfl))
  try simp only [Act.put, List.setIfInBounds_toArray, List.set_cons_zero, List.set_cons_succ]
  refine AnyTwo.takeAny HT12 (i := 16) (oi := { dst := some 28, op := _, type := _, pos := _, after := _, guard := _ }) (v := .bool true) rfl (by kernel_rfl) (by kernel_rfl) (by decide +kernel) (by rfl) (fun _ _ _ h => h) (Or.inl ⟨by rfl, ?yzn14⟩) (ph_one (by kernel_rfl) hS1) ?rzn14
  case yzn14 => (intro w hSw; (try dsimp only at hSw); go_simp; try simp [*])
  try simp only [Act.put, List.setIfInBounds_toArray, List.set_cons_zero, List.set_cons_succ]
  refine AnyTwo.takeAny HT12 (i := 17) (oi := { dst := some 29, op := _, type := _, pos := _, after := _, guard := _ }) (v := ?vzn15) rfl (by kernel_rfl) (by kernel_rfl) (by decide +kernel) (by rfl) (fun _ _ _ h => h) (Or.inl ⟨by rfl, ?yzn15⟩) (ph_one (by kernel_rfl) hS1) ?rzn15
  case yzn15 => (intro w hSw; (try dsimp only at hSw); go_simp; try (with_reducible rfl))
  try simp only [Act.put, List.setIfInBounds_toArray, List.set_cons_zero, List.set_cons_succ]
  refine AnyTwo.step (i := 18) (o := { dst := some 2, op := _, type := _, pos := _, after := _, guard := _ }) (by kernel_rfl) rfl (fun K hK => ?_)
  go_simp
  refine hK.out _ _ (ph_end (by kernel_rfl) hS1) ?_
  clear hK K
  try simp only [Act.put, List.setIfInBounds_toArray, List.set_cons_zero, List.set_cons_succ]
  refine AnyTwo.done (by kernel_rfl) ?_ _
  clear HT12
  have hb := hS1.1
  replace HB := tuck (bAfter HB.out hb)
  clear hb hS1
  go_wp2_with fail
  go_ret
  exact ⟨rfl, HB.out⟩
 have HNT : Hid (∀ (w : World) (v : Value), TmIn w 0 T v → Calls Tryz.prog 41 #[v] w (BoolPost w ((L.length : Int) == 0))) := fun w v h => by
  have h2 := normalI_any T w v h; rwa [normal_reds hv, ← hlr, show decide ((L.length : Int) = 0) = ((L.length : Int) == 0) by rw [Bool.eq_iff_iff]; simp] at h2
 have HTV : Hid (∀ (w : World) (v : Value), TmIn w 0 T v → Calls Tryz.prog 42 #[v] w (BoolPost w true)) := fun w v h => by
  have h2 := validI_any T w v h; rwa [tr_of hv] at h2
 have heq : (((L.length : Int) == 0) == ((L.length : Int) == 0)) = true := by simp
 clear hL hlr hv
 refine (HIM.out _ _ V.out.tm).mono ?_
 rintro e u1 ⟨hb, lv, rfl, hq⟩
 obtain ⟨la, lc, rfl⟩ := hq.form
 replace V := tuck (V.out.below hb)
 replace HB := tuck (bAfter HB.out hb)
 clear hb hq
 obtain ⟨zV, c0V, c1V, c2V, cfV⟩ := V.out.facts
 go_upto_region 5 with fail
 clear zV c0V c1V c2V cfV
 have HT12 : ∀ w' : World, ((fun w' => Below u1.heap.size u1 w' ∧ (gV < w'.heap.size ∧ w'.cell? ⟨gV, 0, none⟩ = some (.int .i64 T.kind) ∧ w'.cell? ⟨gV, 1, none⟩ = some (.int .i64 T.num) ∧ w'.cell? ⟨gV, 2, none⟩ = some (.slice aV T.kids.length cV)))) w' → ((fun w' => Below u1.heap.size u1 w' ∧ (gV < w'.heap.size ∧ w'.cell? ⟨gV, 0, none⟩ = some (.int .i64 T.kind) ∧ w'.cell? ⟨gV, 1, none⟩ = some (.int .i64 T.num) ∧ w'.cell? ⟨gV, 2, none⟩ = some (.slice aV T.kids.length cV)))) w' := fun w' h => h
 refine AnyTwo.begin ((fun w' => Below u1.heap.size u1 w' ∧ (gV < w'.heap.size ∧ w'.cell? ⟨gV, 0, none⟩ = some (.int .i64 T.kind) ∧ w'.cell? ⟨gV, 1, none⟩ = some (.int .i64 T.num) ∧ w'.cell? ⟨gV, 2, none⟩ = some (.slice aV T.kids.length cV)))) ((fun w' => Below u1.heap.size u1 w' ∧ (gV < w'.heap.size ∧ w'.cell? ⟨gV, 0, none⟩ = some (.int .i64 T.kind) ∧ w'.cell? ⟨gV, 1, none⟩ = some (.int .i64 T.num) ∧ w'.cell? ⟨gV, 2, none⟩ = some (.slice aV T.kids.length cV)))) 18 (by kernel_rfl) ?_
 have hS1 : ((fun w' => Below u1.heap.size u1 w' ∧ (gV < w'.heap.size ∧ w'.cell? ⟨gV, 0, none⟩ = some (.int .i64 T.kind) ∧ w'.cell? ⟨gV, 1, none⟩ = some (.int .i64 T.num) ∧ w'.cell? ⟨gV, 2, none⟩ = some (.slice aV T.kids.length cV)))) _ := ⟨(Below.refl _ _).drew, V.out.var.four⟩
 refine AnyTwo.takeAny HT12 (i := 0) (oi := { dst := some 12, op := _, type := _, pos := _, after := _, guard := _ }) (v := ?vzv1) rfl (by kernel_rfl) (by kernel_rfl) (by decide +kernel) (by rfl) (fun _ _ _ h => h) (Or.inl ⟨by rfl, ?yzv1⟩) (ph_one (by kernel_rfl) hS1) ?rzv1
 case yzv1 => (intro w hSw; (try dsimp only at hSw); go_simp; try (with_reducible rfl))
 try simp only [Act.put, List.setIfInBounds_toArray, List.set_cons_zero, List.set_cons_succ]
 refine AnyTwo.takeAny HT12 (i := 1) (oi := { dst := some 13, op := _, type := _, pos := _, after := _, guard := _ }) (v := ?vzv2) rfl (by kernel_rfl) (by kernel_rfl) (by decide +kernel) (by rfl) (fun _ _ _ h => h) (Or.inl ⟨by rfl, ?yzv2⟩) (ph_one (by kernel_rfl) hS1) ?rzv2
 case yzv2 => (intro w hSw; (try dsimp only at hSw); go_simp; try (with_reducible rfl))
 try simp only [Act.put, List.setIfInBounds_toArray, List.set_cons_zero, List.set_cons_succ]
 refine AnyTwo.takeAny HT12 (i := 2) (oi := { dst := some 14, op := _, type := _, pos := _, after := _, guard := _ }) (v := ?vzv3) rfl (by kernel_rfl) (by kernel_rfl) (by decide +kernel) (by rfl) (fun _ _ _ h => h) (Or.inl ⟨by rfl, ?yzv3⟩) (ph_one (by kernel_rfl) hS1) ?rzv3
 case yzv3 => (intro w hSw; (try dsimp only at hSw); go_simp; try (with_reducible rfl))
 try simp only [Act.put, List.setIfInBounds_toArray, List.set_cons_zero, List.set_cons_succ]
 refine AnyTwo.step (i := 3) (o := { dst := some 15, op := _, type := _, pos := _, after := _, guard := _ }) (by kernel_rfl) rfl (fun K hK => ?_)
 go_simp
 refine (HSP.out _ _ ⟨_, rfl, V.out.sl.below hS1.1⟩).mono ?_
 rintro e w7 ⟨hb7, lv7, rfl, hq7⟩
 obtain ⟨la7, lc7, rfl⟩ := hq7.form
 have hS1' : ((fun w' => Below u1.heap.size u1 w' ∧ (gV < w'.heap.size ∧ w'.cell? ⟨gV, 0, none⟩ = some (.int .i64 T.kind) ∧ w'.cell? ⟨gV, 1, none⟩ = some (.int .i64 T.num) ∧ w'.cell? ⟨gV, 2, none⟩ = some (.slice aV T.kids.length cV)))) _ := ⟨bAfter hS1.1 hb7, BoxAt.below hS1.2 hb7⟩
 refine hK.out _ _ (ph_one (by kernel_rfl) hS1') ?_
 clear hK K hS1
 have hS1 := hS1'
 clear hS1'
 try simp only [Act.put, List.setIfInBounds_toArray, List.set_cons_zero, List.set_cons_succ]
 refine AnyTwo.takeAny HT12 (i := 4) (oi := { dst := some 16, op := _, type := _, pos := _, after := _, guard := _ }) (v := ?vzv4) rfl (by kernel_rfl) (by kernel_rfl) (by decide +kernel) (by rfl) (fun _ _ _ h => h) (Or.inl ⟨by rfl, ?yzv4⟩) (ph_one (by kernel_rfl) hS1) ?rzv4
 case yzv4 => (intro w hSw; (try dsimp only at hSw); go_simp; try (with_reducible rfl))
 try simp only [Act.put, List.setIfInBounds_toArray, List.set_cons_zero, List.set_cons_succ]
 refine AnyTwo.takeAny HT12 (i := 5) (oi := { dst := some 17, op := _, type := _, pos := _, after := _, guard := _ }) (v := .bool true) rfl (by kernel_rfl) (by kernel_rfl) (by decide +kernel) (by rfl) (fun _ _ _ h => h) (Or.inl ⟨by rfl, ?yzv5⟩) (ph_one (by kernel_rfl) hS1) ?rzv5
 case yzv5 => (intro w hSw; (try dsimp only at hSw); go_simp; try simp [*])
 try simp only [Act.put, List.setIfInBounds_toArray, List.set_cons_zero, List.set_cons_succ]
 refine AnyTwo.takeAny HT12 (i := 6) (oi := { dst := some 18, op := _, type := _, pos := _, after := _, guard := _ }) (v := ?vzv6) rfl (by kernel_rfl) (by kernel_rfl) (by decide +kernel) (by rfl) (fun _ _ _ h => h) (Or.inl ⟨by rfl, ?yzv6⟩) (ph_one (by kernel_rfl) hS1) ?rzv6
 case yzv6 => (intro w hSw; (try dsimp only at hSw); go_simp; try (with_reducible rfl))
 try simp only [Act.put, List.setIfInBounds_toArray, List.set_cons_zero, List.set_cons_succ]
 refine AnyTwo.takeAny HT12 (i := 7) (oi := { dst := some 19, op := _, type := _, pos := _, after := _, guard := _ }) (v := ?vzv7) rfl (by kernel_rfl) (by kernel_rfl) (by decide +kernel) (by rfl) (fun _ _ _ h => h) (Or.inl ⟨by rfl, ?yzv7⟩) (ph_one (by kernel_rfl) hS1) ?rzv7
 case yzv7 => (intro w hSw; (try dsimp only at hSw); go_simp; try (with_reducible rfl))
 try simp only [Act.put, List.setIfInBounds_toArray, List.set_cons_zero, List.set_cons_succ]
 refine AnyTwo.takeAny HT12 (i := 9) (oi := { dst := some 21, op := _, type := _, pos := _, after := _, guard := _ }) (v := ?vzv8) rfl (by kernel_rfl) (by kernel_rfl) (by decide +kernel) (by rfl) (fun _ _ _ h => h) (Or.inl ⟨by rfl, ?yzv8⟩) (ph_one (by kernel_rfl) hS1) ?rzv8
 case yzv8 => (intro w hSw; (try dsimp only at hSw); go_simp; try (with_reducible rfl))
 try simp only [Act.put, List.setIfInBounds_toArray, List.set_cons_zero, List.set_cons_succ]
 refine AnyTwo.step (i := 8) (o := { dst := some 20, op := _, type := _, pos := _, after := _, guard := _ }) (by kernel_rfl) rfl (fun K hK => ?_)
 go_simp
 refine (HNT.out _ _ ⟨_, rfl, V.out.sl.below hS1.1⟩).mono ?_
 rintro e w7 ⟨rfl, hb7⟩
 have hS1' : ((fun w' => Below u1.heap.size u1 w' ∧ (gV < w'.heap.size ∧ w'.cell? ⟨gV, 0, none⟩ = some (.int .i64 T.kind) ∧ w'.cell? ⟨gV, 1, none⟩ = some (.int .i64 T.num) ∧ w'.cell? ⟨gV, 2, none⟩ = some (.slice aV T.kids.length cV)))) _ := ⟨bAfter hS1.1 hb7, BoxAt.below hS1.2 hb7⟩
 refine hK.out _ _ (ph_one (by kernel_rfl) hS1') ?_
 clear hK K hS1
 have hS1 := hS1'
 clear hS1'
 try simp only [Act.put, List.setIfInBounds_toArray, List.set_cons_zero, List.set_cons_succ]
 refine AnyTwo.step (i := 10) (o := { dst := some 22, op := _, type := _, pos := _, after := _, guard := _ }) (by kernel_rfl) rfl (fun K hK => ?_)
 go_simp
 refine (HTV.out _ _ ⟨_, rfl, V.out.sl.below hS1.1⟩).mono ?_
 rintro e w7 ⟨rfl, hb7⟩
 have hS1' : ((fun w' => Below u1.heap.size u1 w' ∧ (gV < w'.heap.size ∧ w'.cell? ⟨gV, 0, none⟩ = some (.int .i64 T.kind) ∧ w'.cell? ⟨gV, 1, none⟩ = some (.int .i64 T.num) ∧ w'.cell? ⟨gV, 2, none⟩ = some (.slice aV T.kids.length cV)))) _ := ⟨bAfter hS1.1 hb7, BoxAt.below hS1.2 hb7⟩
 refine hK.out _ _ (ph_one (by kernel_rfl) hS1') ?_
 clear hK K hS1
 have hS1 := hS1'
 clear hS1'
 try simp only [Act.put, List.setIfInBounds_toArray, List.set_cons_zero, List.set_cons_succ]
 refine AnyTwo.takeAny HT12 (i := 11) (oi := { dst := some 23, op := _, type := _, pos := _, after := _, guard := _ }) (v := ?vzv9) rfl (by kernel_rfl) (by kernel_rfl) (by decide +kernel) (by rfl) (fun _ _ _ h => h) (Or.inl ⟨by rfl, ?yzv9⟩) (ph_one (by kernel_rfl) hS1) ?rzv9
 case yzv9 => (intro w hSw; (try dsimp only at hSw); go_simp; try (with_reducible rfl))
 try simp only [Act.put, List.setIfInBounds_toArray, List.set_cons_zero, List.set_cons_succ]
 refine AnyTwo.takeAny HT12 (i := 12) (oi := { dst := some 24, op := _, type := _, pos := _, after := _, guard := _ }) (v := ?vzv10) rfl (by kernel_rfl) (by kernel_rfl) (by decide +kernel) (by rfl) (fun _ _ _ h => h) (Or.inl ⟨by rfl, ?yzv10⟩) (ph_one (by kernel_rfl) hS1) ?rzv10
 case yzv10 => (intro w hSw; (try dsimp only at hSw); go_simp; try (with_reducible rfl))
 try simp only [Act.put, List.setIfInBounds_toArray, List.set_cons_zero, List.set_cons_succ]
 refine AnyTwo.takeAny HT12 (i := 13) (oi := { dst := some 25, op := _, type := _, pos := _, after := _, guard := _ }) (v := ?vzv11) rfl (by kernel_rfl) (by kernel_rfl) (by decide +kernel) (by rfl) (fun _ _ _ h => h) (Or.inl ⟨by rfl, ?yzv11⟩) (ph_one (by kernel_rfl) hS1) ?rzv11
 case yzv11 => (intro w hSw; (try dsimp only at hSw); go_simp; try (with_reducible rfl))
 try simp only [Act.put, List.setIfInBounds_toArray, List.set_cons_zero, List.set_cons_succ]
 refine AnyTwo.takeAny HT12 (i := 14) (oi := { dst := some 26, op := _, type := _, pos := _, after := _, guard := _ }) (v := ?vzv12) rfl (by kernel_rfl) (by kernel_rfl) (by decide +kernel) (by rfl) (fun _ _ _ h => h) (Or.inl ⟨by rfl, ?yzv12⟩) (ph_one (by kernel_rfl) hS1) ?rzv12
 case yzv12 => (intro w hSw; (try dsimp only at hSw); go_simp; try (with_reducible rfl))
 try simp only [Act.put, List.setIfInBounds_toArray, List.set_cons_zero, List.set_cons_succ]
 refine AnyTwo.takeAny HT12 (i := 15) (oi := { dst := some 27, op := _, type := _, pos := _, after := _, guard := _ }) (v := ?vzv13) rfl (by kernel_rfl) (by kernel_rfl) (by decide +kernel) (by rfl) (fun _ _ _ h => h) (Or.inl ⟨by rfl, ?yzv13⟩) (ph_one (by kernel_rfl) hS1) ?rzv13
 case yzv13 => (intro w hSw; (try dsimp only at hSw); go_simp; try (with_reducible rfl))
 try simp only [Act.put, List.setIfInBounds_toArray, List.set_cons_zero, List.set_cons_succ]
 refine AnyTwo.takeAny HT12 (i := 16) (oi := { dst := some 28, op := _, type := _, pos := _, after := _, guard := _ }) (v := .bool true) rfl (by kernel_rfl) (by kernel_rfl) (by decide +kernel) (by rfl) (fun _ _ _ h => h) (Or.inl ⟨by rfl, ?yzv14⟩) (ph_one (by kernel_rfl) hS1) ?rzv14
 case yzv14 => (intro w hSw; (try dsimp only at hSw); go_simp; try simp [*])
 try simp only [Act.put, List.setIfInBounds_toArray, List.set_cons_zero, List.set_cons_succ]
 refine AnyTwo.takeAny HT12 (i := 17) (oi := { dst := some 29, op := _, type := _, pos := _, after := _, guard := _ }) (v := ?vzv15) rfl (by kernel_rfl) (by kernel_rfl) (by decide +kernel) (by rfl) (fun _ _ _ h => h) (Or.inl ⟨by rfl, ?yzv15⟩) (ph_one (by kernel_rfl) hS1) ?rzv15
 case yzv15 => (intro w hSw; (try dsimp only at hSw); go_simp; try (with_reducible rfl))
 try simp only [Act.put, List.setIfInBounds_toArray, List.set_cons_zero, List.set_cons_succ]
 refine AnyTwo.step (i := 18) (o := { dst := some 2, op := _, type := _, pos := _, after := _, guard := _ }) (by kernel_rfl) rfl (fun K hK => ?_)
 go_simp
 refine hK.out _ _ (ph_end (by kernel_rfl) hS1) ?_
 clear hK K
 try simp only [Act.put, List.setIfInBounds_toArray, List.set_cons_zero, List.set_cons_succ]
 refine AnyTwo.done (by kernel_rfl) ?_ _
 clear HT12
 have hb := hS1.1
 replace HB := tuck (bAfter HB.out hb)
 clear hb hS1
 go_wp2_with fail
 go_ret
 exact ⟨rfl, HB.out⟩
set_option maxRecDepth 100000 in
theorem lifted (os : Os) (started : os.Started) (H : Type) (enc : TypeId × Value → H) :
  ReturnsInHanded {} Tryz.checked os 8 .any (Rows.fnNormalPlacesSpec.pre6 enc Tryz.prog Tryz.f8 Rows.fnNormalPlacesRow.domain false) (Rows.fnNormalPlacesSpec.post enc Tryz.prog Tryz.f8 false true false false) := by
 refine returnsInHanded_of_change (C := Tryz.checked) own started (by kernel_rfl) Tryz.func8
  (ChangeSpec.witness6 (enc := enc) (C := Tryz.checked) false ⟨#[], #[.slice none 0 0], []⟩ 8 (by kernel_rfl) (by kernel_rfl) (by kernel_rfl) (by kernel_rfl)) ?_
 intro W base args ds gs before hval0 hW hcnd _
 have hval : ∀ (j : Nat) t v, Tryz.f8.params[j]? = some t → args[j]? = some v → Value.okWide Tryz.prog W .any base t v := hval0
 have hW' := hW
 obtain ⟨p, q, hA0, hV, rfl, hfz, hnd⟩ := hW
 have hA : DataW.TrodAll enc Tryz.prog W 0 (fun _ => true) true Tryz.f8.params.toList args.toList ds p := hA0
 rw [Tryz.params8] at hA hval
 obtain ⟨v0, vs0, d0, ds0, p0, q0, hargs, rfl, rfl, h0, r0⟩ := trodAll_cons hA
 obtain ⟨rfl, rfl, rfl⟩ := trodAll_nil r0
 obtain rfl : args = #[v0] := by cases args; simp_all
 obtain ⟨U0, ad0, bb0, oo0, len0, cap0, rfl, hlc0, hcm0, hbl0, hby0⟩ := open_bytes (hval 0 43 v0 rfl rfl) h0
 refine (walk U0 ad0 bb0 oo0 len0 cap0 W hlc0 hcm0 hby0).mono fun e W' ⟨he, hb⟩ => ?_
 subst he
 exact ⟨_, rfl, law_post rfl rfl (fun gs h => by subst h; rfl) (by rw [Tryz.params8]; exact readable_FnNormalPlaces) laid hW' hb⟩
theorem over : Rows.fnNormalPlacesRow.holds Tryz.pinned (OpenSpec.ofChange Rows.fnNormalPlacesSpec) :=
 OpenClaim.holds_of_wide 8 Tryz.f8 rfl rfl rfl rfl rfl rfl rfl ⟨rfl, rfl, rfl, rfl, rfl⟩ rfl rfl rfl rfl rfl (by kernel_rfl) Tryz.func8 (by kernel_rfl)
  (of_decide_eq_true (by kernel_rfl)) (by unfold Func.isWrapper; first | (rw [if_pos (by decide +kernel)]; kernel_rfl) | (rw [if_neg (by decide +kernel)]; exact ⟨rfl, rfl⟩))
  (fun os started H enc _ => lifted os started H enc)
theorem proved : Rows.FnNormalPlacesSaid :=
 over
end Go.Proofs.YtihlbbbajaepoaaGreat.fnNormalPlaces
