/-
  The law FnRedexPlaces: whatever the bytes, the places of redexes are those at which a part is a redex, and as many as the redexes.
-/
import Derived.Test.YtihlbbbajaepoaaGreatQ08
import Derived.Test.YtihlbbbajaepoaaGreatQ50
import Derived.Test.YtihlbbbajaepoaaGreatQ52
import Derived.Test.YtihlbbbajaepoaaGreatQ53
import Derived.Test.YtihlbbbajaepoaaGreatQ54
import Derived.IntWalk
namespace Go.Proofs.YtihlbbbajaepoaaGreat.fnRedexPlaces
open Go.ChangeShapes Go.WideShapes Go.ChangeAt Go.RowKit Go.Deep
set_option linter.unusedVariables false
theorem readable_FnRedexPlaces : ∀ t ∈ (#[43] : Array TypeId).toList, Tryz.prog.readableRec t = true ∧ t < Tryz.prog.types.size := by
 intro t ht
 simp at ht
 subst ht
 exact ⟨by kernel_rfl, of_decide_eq_true (by kernel_rfl)⟩
theorem laid : laidOutB Tryz.prog = true := by kernel_rfl
set_option maxRecDepth 100000 in
set_option maxHeartbeats 1600000 in
theorem walk (U : Nat → Int) (a : Option Addr) (b o len cap : Nat) (w : World) (hlc : len ≤ cap) (hcm : cap ≤ maxLen) (hby : Bytes U a b o len w) : Calls Tryz.prog 7 #[.slice a len cap] w fun e w' => e = .returned (.bool true) ∧ Below w.heap.size w w' := by
 unfold maxLen at hcm
 by_cases hl : 1048576 < len
 ·have hl' : (1048576 : Int) < (len : Int) := by omega
  clear hby
  go_enter Tryz.func7, Tryz.ntmps7
  go_wp2
  go_ret
  exact ⟨rfl, Below.refl _ _⟩
 have hl' : ¬ (1048576 : Int) < (len : Int) := by omega
 have HD := tuck (dRedexPlaces_any w (by omega) hlc hby)
 clear hby
 go_enter Tryz.func7, Tryz.ntmps7
 go_wp2_with fail
 refine HD.out.mono ?_
 rintro e w1 ⟨T, v, rfl, ⟨s, rfl, hin⟩, hsz, hb⟩
 obtain ⟨aV, cV, rfl⟩ := hin.form
 have V := tuck (TV.new (hin.mono (Nat.zero_le _)))
 have HB := tuck (bAfter hb (below1 w1 (.cells #[.int .i64 T.kind, .int .i64 T.num, .slice aV T.kids.length cV] 34)))
 have HSZ : Hid (sizes T.kids ≤ 1048576) := tuck (by have := T.size_eq; omega)
 clear hin hb HD hsz
 go_wp2_with fail
 generalize w1.alloc (.cells #[.int .i64 T.kind, .int .i64 T.num, .slice aV T.kids.length cV] 34) = U0 at *
 generalize w1.heap.size = gV at *
 obtain ⟨L, hL⟩ : ∃ L, L = placesP true T := ⟨_, rfl⟩
 have HIM : Hid (∀ (w : World) (v : Value), TmIn w 0 T v → Calls Tryz.prog 36 #[v] w (LOwn w L)) := fun w v h => by
  rw [hL]; exact redexPlacesI_any T w v h
 have HSP : Hid (∀ (w : World) (v : Value), TmIn w 0 T v → Calls Tryz.prog 37 #[v] w (LPost w L)) := fun w v h => by
  rw [hL]; exact redexPlacesS_any T w v h
 have hlr : redsOf T = (L.length : Int) := by rw [hL]; exact (placesP_reds T).symm
 have HCN : Hid (∀ (w : World) (v : Value), TmIn w 0 T v → Calls Tryz.prog 38 #[v] w (IntPost w (L.length : Int))) := fun w v h => by
  rw [← hlr]; exact redsI_any T w v h
 have HAT : Hid (∀ j (hj : j < L.length), IsPlace T L[j].1 L[j].2 ∧ L[j].2 ≤ 1048576 ∧ (wayT T L[j].1 L[j].2).redex ≠ 0) := tuck fun j hj => by subst hL; exact ⟨(redexP_at hj).1, (placesP_small true T).2.2 _ (List.getElem_mem hj), (redexP_at hj).2⟩
 have hLl : L.length ≤ 1000 := by rw [hL]; exact placesP_len true T
 have hll : ((L.length : Int) != (L.length : Int)) = false := by simp
 clear hL hlr
 refine (HIM.out _ _ V.out.tm).mono ?_
 rintro e u1 ⟨hb, lv1, rfl, hq⟩
 obtain ⟨la, lc, rfl⟩ := hq.form
 replace V := tuck (V.out.below hb)
 replace HB := tuck (bAfter HB.out hb)
 have RL := tuck (hq.rowP.base (b' := 0) (Nat.zero_le _))
 clear hb hq
 obtain ⟨zV, c0V, c1V, c2V, cfV⟩ := V.out.facts
 go_wp2_with fail
 refine (HSP.out _ _ V.out.tm).mono ?_
 rintro e u2 ⟨hb, lv2, rfl, hq⟩
 obtain ⟨ma, mc, rfl⟩ := hq.form
 clear zV c0V c1V c2V cfV
 replace V := tuck (V.out.below hb)
 replace RL := tuck (RL.out.below hb)
 replace HB := tuck (bAfter HB.out hb)
 have RW := tuck (hq.base (b' := 0) (Nat.zero_le _))
 clear hb hq
 obtain ⟨zV, c0V, c1V, c2V, cfV⟩ := V.out.facts
 go_wp2_with fail
 refine (HCN.out _ _ V.out.tm).mono ?_
 rintro e u3 ⟨rfl, hb⟩
 clear zV c0V c1V c2V cfV
 replace V := tuck (V.out.below hb)
 replace RL := tuck (RL.out.below hb)
 replace RW := tuck (RW.out.below hb)
 replace HB := tuck (bAfter HB.out hb)
 clear hb
 obtain ⟨zV, c0V, c1V, c2V, cfV⟩ := V.out.facts
 go_wp2_with fail
 clear zV c0V c1V c2V cfV
 go_loopw [6] (fun iv wr => ∃ q : Nat, q ≤ L.length ∧ iv = .int .i64 q ∧ Below u3.heap.size u3 wr) (fun iv _ => L.length - (intOf iv).toNat)
 case atStart => exact ⟨0, Nat.zero_le _, rfl, Below.refl _ _⟩
 case round =>
  obtain ⟨q, hq, rfl, hb⟩ := hrel
  have VR := tuck (V.out.below hb)
  have RLR := tuck (RL.out.below hb)
  have RWR := tuck (RW.out.below hb)
  have HBW := tuck hb
  clear hb
  by_cases hlt : q < L.length
  rotate_left
  ·have hlti : ¬ ((q : Int) < (L.length : Int)) := by omega
   go_wp2_with fail
   go_ret
   exact ⟨rfl, bAfter HB.out HBW.out⟩
  have hlti : ((q : Int) < (L.length : Int)) := by omega
  have hqi : (0 : Int) ≤ (q : Int) := by omega
  obtain ⟨g1, hg1, -, ua, uc, k1, k2, -⟩ := RLR.out.at hlt
  obtain ⟨rfl, hg1l⟩ := hg1
  obtain ⟨g2, hg2, -, ub, ud, m1, m2, -⟩ := RWR.out.at hlt
  obtain ⟨rfl, hg2l⟩ := hg2
  have HI1 := tuck k2.ints
  have HI2 := tuck m2.ints
  have HC1 := tuck (show g1 < wr.heap.size ∧ wr.cell? ⟨g1, q, none⟩ = some (.slice ua L[q].2 uc) from ⟨hg1l, k1⟩)
  have HC2 := tuck (show g2 < wr.heap.size ∧ wr.cell? ⟨g2, q, none⟩ = some (.slice ub L[q].2 ud) from ⟨hg2l, m1⟩)
  have hat := HAT.out q hlt
  clear k1 k2 m1 m2 hg1l hg2l
  generalize hy : L[q] = y at *
  obtain ⟨N, n⟩ := y
  clear hy
  simp only at hat HI1 HI2 HC1 HC2
  obtain ⟨hP, hn, hx⟩ := hat
  obtain ⟨X, hX⟩ : ∃ X, X = wayT T N n := ⟨_, rfl⟩
  have HN := tuck hn
  have HT1 : Hid (∀ (w : World) (v tv : Value), Ints w 0 N n v → TmIn w 0 T tv → Calls Tryz.prog 23 #[tv, v] w (NewPost8 w X true)) := fun w v tv h1 h2 => by
   have h3 := termAtI_n (N := N) HN.out w v tv h1 h2; rwa [orZero_yes hP, tr_of hP, ← hX] at h3
  have HDK : Hid (∀ (w : World) (v1 v2 : Value), Ints w 0 N n v1 → Ints w 0 N n v2 → Calls Tryz.prog 39 #[v1, v2] w (BoolPost w true)) := tuck fun w v1 v2 h1 h2 => by have h3 := dkInts_any N N n n w v1 v2 HN.out h1 h2; rwa [tr_of (show sameN N n N n from ⟨rfl, fun _ _ => rfl⟩)] at h3
  obtain ⟨c, hc⟩ : ∃ c, X.redex = c := ⟨_, rfl⟩
  have hcn : (c == 0) = false := by rw [beq_eq_false_iff_ne, ← hc, hX]; exact hx
  have HRO : Hid (∀ (w : World) (v : Value), TmIn w 0 X v → Calls Tryz.prog 40 #[v] w (IntPost w c)) := tuck fun w v h => by have h2 := redexOfI_any X w v h; rwa [redexOf_valid (hX ▸ hP.ok.valid), hc] at h2
  clear hc hX hP hx hn
  obtain ⟨zV, c0V, c1V, c2V, cfV⟩ := VR.out.facts
  go_upto_region 11 with fail
  clear zV c0V c1V c2V cfV
  have HX := tuck (show BoxAt gV T.kind T.num (.slice aV T.kids.length cV) wr from VR.out.var.four)
  have HTX := tuck VR.out.tm
  go_cut [7, 8] from 30 to 63 (fun p0 p1 wx => ∃ (gz : Nat) (aa : Option Addr) (cc : Nat), p0 = .pointer (some ⟨gz, 0, none⟩) ∧ p1 = .bool true ∧ Below wr.heap.size wr wx ∧ VarAt gz X.kind X.num (.slice aa X.kids.length cc) wx ∧ SlIn wx 0 X.kids (.slice aa X.kids.length cc))
  case first =>
   have HT12 : ∀ w' : World, (fun w' : World => Below wr.heap.size wr w' ∧ (gV < w'.heap.size ∧ w'.cell? ⟨gV, 0, none⟩ = some (.int .i64 T.kind) ∧ w'.cell? ⟨gV, 1, none⟩ = some (.int .i64 T.num) ∧ w'.cell? ⟨gV, 2, none⟩ = some (.slice aV T.kids.length cV)) ∧ (g1 < w'.heap.size ∧ w'.cell? ⟨g1, q, none⟩ = some (.slice ua n uc))) w' → (fun w' : World => Below wr.heap.size wr w' ∧ (gV < w'.heap.size ∧ w'.cell? ⟨gV, 0, none⟩ = some (.int .i64 T.kind) ∧ w'.cell? ⟨gV, 1, none⟩ = some (.int .i64 T.num) ∧ w'.cell? ⟨gV, 2, none⟩ = some (.slice aV T.kids.length cV)) ∧ (g1 < w'.heap.size ∧ w'.cell? ⟨g1, q, none⟩ = some (.slice ua n uc))) w' := fun w' h => h
   refine AnyTwo.begin (fun w' : World => Below wr.heap.size wr w' ∧ (gV < w'.heap.size ∧ w'.cell? ⟨gV, 0, none⟩ = some (.int .i64 T.kind) ∧ w'.cell? ⟨gV, 1, none⟩ = some (.int .i64 T.num) ∧ w'.cell? ⟨gV, 2, none⟩ = some (.slice aV T.kids.length cV)) ∧ (g1 < w'.heap.size ∧ w'.cell? ⟨g1, q, none⟩ = some (.slice ua n uc))) (fun w' : World => Below wr.heap.size wr w' ∧ (gV < w'.heap.size ∧ w'.cell? ⟨gV, 0, none⟩ = some (.int .i64 T.kind) ∧ w'.cell? ⟨gV, 1, none⟩ = some (.int .i64 T.num) ∧ w'.cell? ⟨gV, 2, none⟩ = some (.slice aV T.kids.length cV)) ∧ (g1 < w'.heap.size ∧ w'.cell? ⟨g1, q, none⟩ = some (.slice ua n uc))) 11 (by kernel_rfl) ?_
   have hS1 : (fun w' : World => Below wr.heap.size wr w' ∧ (gV < w'.heap.size ∧ w'.cell? ⟨gV, 0, none⟩ = some (.int .i64 T.kind) ∧ w'.cell? ⟨gV, 1, none⟩ = some (.int .i64 T.num) ∧ w'.cell? ⟨gV, 2, none⟩ = some (.slice aV T.kids.length cV)) ∧ (g1 < w'.heap.size ∧ w'.cell? ⟨g1, q, none⟩ = some (.slice ua n uc))) wr.drew := ⟨(Below.refl _ _).drew, HX.out, HC1.out⟩
   have HXL : Hid (gV < wr.heap.size) := tuck HX.out.1
   have HGN : Hid (g1 ≠ wr.heap.size) := tuck (Nat.ne_of_lt HC1.out.1)
   refine AnyTwo.takeAny HT12 (i := 0) (oi := { dst := some 37, op := _, type := _, pos := _, after := _, guard := _ }) (v := ?vi0) rfl (by kernel_rfl) (by kernel_rfl) (by decide +kernel) (by rfl) (fun _ _ _ h => h) (Or.inl ⟨by rfl, ?yi0⟩) (ph_one (by kernel_rfl) hS1) ?ri0
   case yi0 => (intro w hSw; (try dsimp only at hSw); go_simp; try (with_reducible rfl))
   try simp only [Act.put, List.setIfInBounds_toArray, List.set_cons_zero, List.set_cons_succ]
   refine AnyTwo.takeAny HT12 (i := 1) (oi := { dst := some 38, op := _, type := _, pos := _, after := _, guard := _ }) (v := ?vi1) rfl (by kernel_rfl) (by kernel_rfl) (by decide +kernel) (by rfl) (fun _ _ _ h => h) (Or.inl ⟨by rfl, ?yi1⟩) (ph_one (by kernel_rfl) hS1) ?ri1
   case yi1 => (intro w hSw; (try dsimp only at hSw); go_simp; try (with_reducible rfl))
   try simp only [Act.put, List.setIfInBounds_toArray, List.set_cons_zero, List.set_cons_succ]
   refine AnyTwo.takeAny HT12 (i := 2) (oi := { dst := some 39, op := _, type := _, pos := _, after := _, guard := _ }) (v := ?vi2) rfl (by kernel_rfl) (by kernel_rfl) (by decide +kernel) (by rfl) (fun _ _ _ h => h) (Or.inl ⟨by rfl, ?yi2⟩) (ph_one (by kernel_rfl) hS1) ?ri2
   case yi2 => (intro w hSw; (try dsimp only at hSw); go_simp; try (with_reducible rfl))
   try simp only [Act.put, List.setIfInBounds_toArray, List.set_cons_zero, List.set_cons_succ]
   refine AnyTwo.takeAny HT12 (i := 3) (oi := { dst := some 40, op := _, type := _, pos := _, after := _, guard := _ }) (v := ?vi3) rfl (by kernel_rfl) (by kernel_rfl) (by decide +kernel) (by rfl) (fun _ _ _ h => h) (Or.inl ⟨by rfl, ?yi3⟩) (ph_one (by kernel_rfl) hS1) ?ri3
   case yi3 => (intro w hSw; (try dsimp only at hSw); go_simp; try (with_reducible rfl))
   try simp only [Act.put, List.setIfInBounds_toArray, List.set_cons_zero, List.set_cons_succ]
   refine AnyTwo.takeAny HT12 (i := 4) (oi := { dst := some 41, op := _, type := _, pos := _, after := _, guard := _ }) (v := ?vi4) rfl (by kernel_rfl) (by kernel_rfl) (by decide +kernel) (by rfl) (fun _ _ _ h => h) (Or.inl ⟨by rfl, ?yi4⟩) (ph_one (by kernel_rfl) hS1) ?ri4
   case yi4 => (intro w hSw; (try dsimp only at hSw); go_simp; try (with_reducible rfl))
   try simp only [Act.put, List.setIfInBounds_toArray, List.set_cons_zero, List.set_cons_succ]
   refine AnyTwo.fork (i := 5) (o := { dst := some 42, op := _, type := _, pos := _, after := _, guard := _ }) (j := 9) (o' := { dst := some 7, op := _, type := _, pos := _, after := _, guard := _ }) (by kernel_rfl) rfl rfl (fun K hK => ?_) (fun K hK => ?_)
   ·skip
    go_simp
    refine (HT1.out _ _ _ (HI1.out.below hS1.1) (by obtain ⟨s, e, hs⟩ := HTX.out; exact ⟨s, e, hs.below hS1.1⟩)).mono ?_
    rintro e w9 ⟨hbq, vv, rfl, ss, rfl, hin⟩
    obtain ⟨aX, cX, rfl⟩ := hin.form
    have HW := tuck hin
    clear hin
    have HH9 : Hid ((fun w' : World => Below wr.heap.size wr w' ∧ (gV < w'.heap.size ∧ w'.cell? ⟨gV, 0, none⟩ = some (.int .i64 T.kind) ∧ w'.cell? ⟨gV, 1, none⟩ = some (.int .i64 T.num) ∧ w'.cell? ⟨gV, 2, none⟩ = some (.slice aV T.kids.length cV)) ∧ (g1 < w'.heap.size ∧ w'.cell? ⟨g1, q, none⟩ = some (.slice ua n uc))) w9) := tuck (⟨bAfter hS1.1 hbq, BoxAt.below hS1.2.1 hbq, cellAt_keep hS1.2.2 hbq⟩)
    have hS1' : (fun w' : World => Below wr.heap.size wr w' ∧ (gV < w'.heap.size ∧ w'.cell? ⟨gV, 0, none⟩ = some (.int .i64 T.kind) ∧ w'.cell? ⟨gV, 1, none⟩ = some (.int .i64 T.num) ∧ w'.cell? ⟨gV, 2, none⟩ = some (.slice aV T.kids.length cV)) ∧ (g1 < w'.heap.size ∧ w'.cell? ⟨g1, q, none⟩ = some (.slice ua n uc))) _ := HH9.out
    refine hK.out _ _ (ph_one (by kernel_rfl) hS1') ?_
    clear hK K hS1
    have hS1 := hS1'
    clear hS1'
    try simp only [Act.put, List.setIfInBounds_toArray, List.set_cons_zero, List.set_cons_succ]
    refine AnyTwo.takeAny HT12 (i := 6) (oi := { dst := some 36, op := _, type := _, pos := _, after := _, guard := _ }) (v := ?vic6) rfl (by kernel_rfl) (by kernel_rfl) (by decide +kernel) (by rfl) (fun _ _ _ h => h) (Or.inl ⟨by rfl, ?yic6⟩) (ph_one (by kernel_rfl) hS1) ?ric6
    case yic6 => (intro w hSw; (try dsimp only at hSw); go_simp; try (with_reducible rfl))
    try simp only [Act.put, List.setIfInBounds_toArray, List.set_cons_zero, List.set_cons_succ]
    refine AnyTwo.takeAny HT12 (i := 7) (oi := { dst := some 43, op := _, type := _, pos := _, after := _, guard := _ }) (v := ?vic7) rfl (by kernel_rfl) (by kernel_rfl) (by decide +kernel) (by rfl) (fun _ _ _ h => h) (Or.inl ⟨by rfl, ?yic7⟩) (ph_one (by kernel_rfl) hS1) ?ric7
    case yic7 => (intro w hSw; (try dsimp only at hSw); go_simp; try (with_reducible rfl))
    try simp only [Act.put, List.setIfInBounds_toArray, List.set_cons_zero, List.set_cons_succ]
    refine AnyTwo.takeAny HT12 (i := 8) (oi := { dst := some 44, op := _, type := _, pos := _, after := _, guard := _ }) (v := ?vic8) rfl (by kernel_rfl) (by kernel_rfl) (by decide +kernel) (by rfl) (fun _ _ _ h => h) (Or.inl ⟨by rfl, ?yic8⟩) (ph_one (by kernel_rfl) hS1) ?ric8
    case yic8 => (intro w hSw; (try dsimp only at hSw); go_simp; try (with_reducible rfl))
    try simp only [Act.put, List.setIfInBounds_toArray, List.set_cons_zero, List.set_cons_succ]
    refine AnyTwo.step (i := 9) (o := { dst := some 7, op := _, type := _, pos := _, after := _, guard := _ }) (by kernel_rfl) rfl (fun K hK => ?_)
    go_simp
    have HZ0 := tuck (show wr.heap.size ≤ w9.heap.size from hS1.1.size)
    have hS1' : (fun w' : World => Below wr.heap.size wr w' ∧ (gV < w'.heap.size ∧ w'.cell? ⟨gV, 0, none⟩ = some (.int .i64 T.kind) ∧ w'.cell? ⟨gV, 1, none⟩ = some (.int .i64 T.num) ∧ w'.cell? ⟨gV, 2, none⟩ = some (.slice aV T.kids.length cV)) ∧ (g1 < w'.heap.size ∧ w'.cell? ⟨g1, q, none⟩ = some (.slice ua n uc))) _ := ⟨bAfter HH9.out.1 (below1 w9 (.cells #[.int .i64 0, .int .i64 0, .slice none 0 0] 34)), BoxAt.below HH9.out.2.1 (below1 w9 (.cells #[.int .i64 0, .int .i64 0, .slice none 0 0] 34)), cellAt_keep HH9.out.2.2 (below1 w9 (.cells #[.int .i64 0, .int .i64 0, .slice none 0 0] 34))⟩
    refine hK.out _ _ (ph_one (by kernel_rfl) hS1') ?_
    clear hK K hS1
    have hS1 := hS1'
    clear hS1'
    try simp only [Act.put, List.setIfInBounds_toArray, List.set_cons_zero, List.set_cons_succ]
    refine AnyTwo.step (i := 10) (o := { dst := none, op := _, type := _, pos := _, after := _, guard := _ }) (by kernel_rfl) rfl (fun K hK => ?_)
    go_simp
    have hS1' : (fun w' : World => Below wr.heap.size wr w' ∧ (gV < w'.heap.size ∧ w'.cell? ⟨gV, 0, none⟩ = some (.int .i64 T.kind) ∧ w'.cell? ⟨gV, 1, none⟩ = some (.int .i64 T.num) ∧ w'.cell? ⟨gV, 2, none⟩ = some (.slice aV T.kids.length cV)) ∧ (g1 < w'.heap.size ∧ w'.cell? ⟨g1, q, none⟩ = some (.slice ua n uc))) _ := ⟨bAfter HH9.out.1 (below1 w9 (.cells #[.int .i64 X.kind, .int .i64 X.num, .slice aX X.kids.length cX] 34)), BoxAt.below HH9.out.2.1 (below1 w9 (.cells #[.int .i64 X.kind, .int .i64 X.num, .slice aX X.kids.length cX] 34)), cellAt_keep HH9.out.2.2 (below1 w9 (.cells #[.int .i64 X.kind, .int .i64 X.num, .slice aX X.kids.length cX] 34))⟩
    refine hK.out _ _ (ph_one (by kernel_rfl) hS1') ?_
    clear hK K hS1
    have hS1 := hS1'
    clear hS1'
    try simp only [Act.put, List.setIfInBounds_toArray, List.set_cons_zero, List.set_cons_succ]
    refine AnyTwo.step (i := 11) (o := { dst := some 8, op := _, type := _, pos := _, after := _, guard := _ }) (by kernel_rfl) rfl (fun K hK => ?_)
    go_simp
    refine hK.out _ _ (ph_end (by kernel_rfl) hS1) ?_
    clear hK K
    try simp only [Act.put, List.setIfInBounds_toArray, List.set_cons_zero, List.set_cons_succ]
    refine AnyTwo.done (by kernel_rfl) ?_ _
    go_wp2_with fail
    go_meet
    exact ⟨w9.heap.size, aX, cX, rfl, rfl, hS1.1, VarAt.new w9 _ _ _, (HW.out.mono (Nat.zero_le _)).below (below1 w9 _)⟩
   ·skip
    go_simp
    have HZ := tuck (show VarAt wr.heap.size 0 0 (.slice none 0 0) (wr.alloc (.cells #[.int .i64 0, .int .i64 0, .slice none 0 0] 34)).drew from VarAt.new wr 0 0 (.slice none 0 0))
    have hS1' : (fun w' : World => Below wr.heap.size wr w' ∧ (gV < w'.heap.size ∧ w'.cell? ⟨gV, 0, none⟩ = some (.int .i64 T.kind) ∧ w'.cell? ⟨gV, 1, none⟩ = some (.int .i64 T.num) ∧ w'.cell? ⟨gV, 2, none⟩ = some (.slice aV T.kids.length cV)) ∧ (g1 < w'.heap.size ∧ w'.cell? ⟨g1, q, none⟩ = some (.slice ua n uc))) _ := ⟨(below1 wr (.cells #[.int .i64 0, .int .i64 0, .slice none 0 0] 34)).drew, BoxAt.below HX.out (below1 wr (.cells #[.int .i64 0, .int .i64 0, .slice none 0 0] 34)).drew, cellAt_keep HC1.out (below1 wr (.cells #[.int .i64 0, .int .i64 0, .slice none 0 0] 34)).drew⟩
    refine hK.out _ _ (ph_one (by kernel_rfl) hS1') ?_
    clear hK K hS1
    have hS1 := hS1'
    clear hS1'
    try simp only [Act.put, List.setIfInBounds_toArray, List.set_cons_zero, List.set_cons_succ]
    refine AnyTwo.step (i := 5) (o := { dst := some 42, op := _, type := _, pos := _, after := _, guard := _ }) (by kernel_rfl) rfl (fun K hK => ?_)
    go_simp
    have HGL := tuck HZ.out.facts.1
    refine (HT1.out _ _ _ (HI1.out.below hS1.1) (by obtain ⟨s, e, hs⟩ := HTX.out; exact ⟨s, e, hs.below hS1.1⟩)).mono ?_
    rintro e w9 ⟨hbq, vv, rfl, ss, rfl, hin⟩
    obtain ⟨aX, cX, rfl⟩ := hin.form
    have HW := tuck hin
    clear hin
    have HH9 : Hid ((fun w' : World => Below wr.heap.size wr w' ∧ (gV < w'.heap.size ∧ w'.cell? ⟨gV, 0, none⟩ = some (.int .i64 T.kind) ∧ w'.cell? ⟨gV, 1, none⟩ = some (.int .i64 T.num) ∧ w'.cell? ⟨gV, 2, none⟩ = some (.slice aV T.kids.length cV)) ∧ (g1 < w'.heap.size ∧ w'.cell? ⟨g1, q, none⟩ = some (.slice ua n uc))) w9) := tuck (⟨bAfter hS1.1 hbq, BoxAt.below hS1.2.1 hbq, cellAt_keep hS1.2.2 hbq⟩)
    replace HZ := tuck (HZ.out.below hbq)
    obtain ⟨zz, y0, y1, y2, yf⟩ := HZ.out.facts
    have hS1' : (fun w' : World => Below wr.heap.size wr w' ∧ (gV < w'.heap.size ∧ w'.cell? ⟨gV, 0, none⟩ = some (.int .i64 T.kind) ∧ w'.cell? ⟨gV, 1, none⟩ = some (.int .i64 T.num) ∧ w'.cell? ⟨gV, 2, none⟩ = some (.slice aV T.kids.length cV)) ∧ (g1 < w'.heap.size ∧ w'.cell? ⟨g1, q, none⟩ = some (.slice ua n uc))) _ := HH9.out
    refine hK.out _ _ (ph_one (by kernel_rfl) hS1') ?_
    clear hK K hS1
    have hS1 := hS1'
    clear hS1'
    try simp only [Act.put, List.setIfInBounds_toArray, List.set_cons_zero, List.set_cons_succ]
    refine AnyTwo.takeAny HT12 (i := 6) (oi := { dst := some 36, op := _, type := _, pos := _, after := _, guard := _ }) (v := ?via6) rfl (by kernel_rfl) (by kernel_rfl) (by decide +kernel) (by rfl) (fun _ _ _ h => h) (Or.inl ⟨by rfl, ?yia6⟩) (ph_one (by kernel_rfl) hS1) ?ria6
    case yia6 => (intro w hSw; (try dsimp only at hSw); go_simp; try (with_reducible rfl))
    try simp only [Act.put, List.setIfInBounds_toArray, List.set_cons_zero, List.set_cons_succ]
    refine AnyTwo.takeAny HT12 (i := 7) (oi := { dst := some 43, op := _, type := _, pos := _, after := _, guard := _ }) (v := ?via7) rfl (by kernel_rfl) (by kernel_rfl) (by decide +kernel) (by rfl) (fun _ _ _ h => h) (Or.inl ⟨by rfl, ?yia7⟩) (ph_one (by kernel_rfl) hS1) ?ria7
    case yia7 => (intro w hSw; (try dsimp only at hSw); go_simp; try (with_reducible rfl))
    try simp only [Act.put, List.setIfInBounds_toArray, List.set_cons_zero, List.set_cons_succ]
    refine AnyTwo.takeAny HT12 (i := 8) (oi := { dst := some 44, op := _, type := _, pos := _, after := _, guard := _ }) (v := ?via8) rfl (by kernel_rfl) (by kernel_rfl) (by decide +kernel) (by rfl) (fun _ _ _ h => h) (Or.inl ⟨by rfl, ?yia8⟩) (ph_one (by kernel_rfl) hS1) ?ria8
    case yia8 => (intro w hSw; (try dsimp only at hSw); go_simp; try (with_reducible rfl))
    try simp only [Act.put, List.setIfInBounds_toArray, List.set_cons_zero, List.set_cons_succ]
    refine AnyTwo.step (i := 10) (o := { dst := none, op := _, type := _, pos := _, after := _, guard := _ }) (by kernel_rfl) rfl (fun K hK => ?_)
    go_simp
    have h9 := hold1T_set3 (w := wr) (w1 := w9) (g := gV) (k := T.kind) (n := T.num) (s := .slice aV T.kids.length cV) (gz := wr.heap.size) (x := .int .i64 X.kind) (y := .int .i64 X.num) (z := .slice aX X.kids.length cX) ⟨HH9.out.1, HH9.out.2.1⟩ (Nat.le_refl _) HXL.out
    have hS1' : (fun w' : World => Below wr.heap.size wr w' ∧ (gV < w'.heap.size ∧ w'.cell? ⟨gV, 0, none⟩ = some (.int .i64 T.kind) ∧ w'.cell? ⟨gV, 1, none⟩ = some (.int .i64 T.num) ∧ w'.cell? ⟨gV, 2, none⟩ = some (.slice aV T.kids.length cV)) ∧ (g1 < w'.heap.size ∧ w'.cell? ⟨g1, q, none⟩ = some (.slice ua n uc))) _ := ⟨h9.1, h9.2, cellAt_set3 HH9.out.2.2 HGN.out⟩
    refine hK.out _ _ (ph_one (by kernel_rfl) hS1') ?_
    clear hK K hS1
    have hS1 := hS1'
    clear hS1'
    try simp only [Act.put, List.setIfInBounds_toArray, List.set_cons_zero, List.set_cons_succ]
    clear h9
    refine AnyTwo.step (i := 11) (o := { dst := some 8, op := _, type := _, pos := _, after := _, guard := _ }) (by kernel_rfl) rfl (fun K hK => ?_)
    go_simp
    refine hK.out _ _ (ph_end (by kernel_rfl) hS1) ?_
    clear hK K
    try simp only [Act.put, List.setIfInBounds_toArray, List.set_cons_zero, List.set_cons_succ]
    refine AnyTwo.done (by kernel_rfl) ?_ _
    go_wp2_with fail
    go_meet
    exact ⟨wr.heap.size, aX, cX, rfl, rfl, hS1.1, HZ.out.set3, (tl_sl3 HW.out HGL.out).mono (Nat.zero_le _)⟩
  case rest =>
   obtain ⟨gX, aX, cX, rfl, rfl, hb, hv8, hs8⟩ := hcut
   rename World => W8
   clear HX HTX HT1
   replace HC1 := tuck (cellAt_keep HC1.out hb)
   replace HC2 := tuck (cellAt_keep HC2.out hb)
   replace HI1 := tuck (HI1.out.below hb)
   replace HI2 := tuck (HI2.out.below hb)
   replace HBW := tuck (bAfter HBW.out hb)
   have VX : Hid (TV gX X aX cX W8) := tuck ⟨hv8, hs8⟩
   clear hv8 hs8
   clear hb
   go_upto_region 12 with fail
   have HT12 : ∀ w' : World, ((fun w' => Below W8.heap.size W8 w' ∧ (gX < w'.heap.size ∧ w'.cell? ⟨gX, 0, none⟩ = some (.int .i64 X.kind) ∧ w'.cell? ⟨gX, 1, none⟩ = some (.int .i64 X.num) ∧ w'.cell? ⟨gX, 2, none⟩ = some (.slice aX X.kids.length cX)) ∧ (g1 < w'.heap.size ∧ w'.cell? ⟨g1, q, none⟩ = some (.slice ua n uc)) ∧ (g2 < w'.heap.size ∧ w'.cell? ⟨g2, q, none⟩ = some (.slice ub n ud)))) w' → ((fun w' => Below W8.heap.size W8 w' ∧ (gX < w'.heap.size ∧ w'.cell? ⟨gX, 0, none⟩ = some (.int .i64 X.kind) ∧ w'.cell? ⟨gX, 1, none⟩ = some (.int .i64 X.num) ∧ w'.cell? ⟨gX, 2, none⟩ = some (.slice aX X.kids.length cX)) ∧ (g1 < w'.heap.size ∧ w'.cell? ⟨g1, q, none⟩ = some (.slice ua n uc)) ∧ (g2 < w'.heap.size ∧ w'.cell? ⟨g2, q, none⟩ = some (.slice ub n ud)))) w' := fun w' h => h
   refine AnyTwo.begin ((fun w' => Below W8.heap.size W8 w' ∧ (gX < w'.heap.size ∧ w'.cell? ⟨gX, 0, none⟩ = some (.int .i64 X.kind) ∧ w'.cell? ⟨gX, 1, none⟩ = some (.int .i64 X.num) ∧ w'.cell? ⟨gX, 2, none⟩ = some (.slice aX X.kids.length cX)) ∧ (g1 < w'.heap.size ∧ w'.cell? ⟨g1, q, none⟩ = some (.slice ua n uc)) ∧ (g2 < w'.heap.size ∧ w'.cell? ⟨g2, q, none⟩ = some (.slice ub n ud)))) ((fun w' => Below W8.heap.size W8 w' ∧ (gX < w'.heap.size ∧ w'.cell? ⟨gX, 0, none⟩ = some (.int .i64 X.kind) ∧ w'.cell? ⟨gX, 1, none⟩ = some (.int .i64 X.num) ∧ w'.cell? ⟨gX, 2, none⟩ = some (.slice aX X.kids.length cX)) ∧ (g1 < w'.heap.size ∧ w'.cell? ⟨g1, q, none⟩ = some (.slice ua n uc)) ∧ (g2 < w'.heap.size ∧ w'.cell? ⟨g2, q, none⟩ = some (.slice ub n ud)))) 18 (by kernel_rfl) ?_
   have hS1 : ((fun w' => Below W8.heap.size W8 w' ∧ (gX < w'.heap.size ∧ w'.cell? ⟨gX, 0, none⟩ = some (.int .i64 X.kind) ∧ w'.cell? ⟨gX, 1, none⟩ = some (.int .i64 X.num) ∧ w'.cell? ⟨gX, 2, none⟩ = some (.slice aX X.kids.length cX)) ∧ (g1 < w'.heap.size ∧ w'.cell? ⟨g1, q, none⟩ = some (.slice ua n uc)) ∧ (g2 < w'.heap.size ∧ w'.cell? ⟨g2, q, none⟩ = some (.slice ub n ud)))) _ := ⟨(Below.refl _ _).drew, VX.out.var.four, HC1.out, HC2.out⟩
   refine AnyTwo.takeAny HT12 (i := 0) (oi := { dst := some 45, op := _, type := _, pos := _, after := _, guard := _ }) (v := ?vz1) rfl (by kernel_rfl) (by kernel_rfl) (by decide +kernel) (by rfl) (fun _ _ _ h => h) (Or.inl ⟨by rfl, ?yz1⟩) (ph_one (by kernel_rfl) hS1) ?rz1
   case yz1 => (intro w hSw; (try dsimp only at hSw); go_simp; try (with_reducible rfl))
   try simp only [Act.put, List.setIfInBounds_toArray, List.set_cons_zero, List.set_cons_succ]
   refine AnyTwo.takeAny HT12 (i := 1) (oi := { dst := some 46, op := _, type := _, pos := _, after := _, guard := _ }) (v := ?vz2) rfl (by kernel_rfl) (by kernel_rfl) (by decide +kernel) (by rfl) (fun _ _ _ h => h) (Or.inl ⟨by rfl, ?yz2⟩) (ph_one (by kernel_rfl) hS1) ?rz2
   case yz2 => (intro w hSw; (try dsimp only at hSw); go_simp; try (with_reducible rfl))
   try simp only [Act.put, List.setIfInBounds_toArray, List.set_cons_zero, List.set_cons_succ]
   refine AnyTwo.takeAny HT12 (i := 2) (oi := { dst := some 47, op := _, type := _, pos := _, after := _, guard := _ }) (v := ?vz3) rfl (by kernel_rfl) (by kernel_rfl) (by decide +kernel) (by rfl) (fun _ _ _ h => h) (Or.inl ⟨by rfl, ?yz3⟩) (ph_one (by kernel_rfl) hS1) ?rz3
   case yz3 => (intro w hSw; (try dsimp only at hSw); go_simp; try (with_reducible rfl))
   try simp only [Act.put, List.setIfInBounds_toArray, List.set_cons_zero, List.set_cons_succ]
   refine AnyTwo.takeAny HT12 (i := 3) (oi := { dst := some 48, op := _, type := _, pos := _, after := _, guard := _ }) (v := ?vz4) rfl (by kernel_rfl) (by kernel_rfl) (by decide +kernel) (by rfl) (fun _ _ _ h => h) (Or.inl ⟨by rfl, ?yz4⟩) (ph_one (by kernel_rfl) hS1) ?rz4
   case yz4 => (intro w hSw; (try dsimp only at hSw); go_simp; try (with_reducible rfl))
   try simp only [Act.put, List.setIfInBounds_toArray, List.set_cons_zero, List.set_cons_succ]
   refine AnyTwo.takeAny HT12 (i := 4) (oi := { dst := some 49, op := _, type := _, pos := _, after := _, guard := _ }) (v := ?vz5) rfl (by kernel_rfl) (by kernel_rfl) (by decide +kernel) (by rfl) (fun _ _ _ h => h) (Or.inl ⟨by rfl, ?yz5⟩) (ph_one (by kernel_rfl) hS1) ?rz5
   case yz5 => (intro w hSw; (try dsimp only at hSw); go_simp; try (with_reducible rfl))
   try simp only [Act.put, List.setIfInBounds_toArray, List.set_cons_zero, List.set_cons_succ]
   refine AnyTwo.takeAny HT12 (i := 5) (oi := { dst := some 50, op := _, type := _, pos := _, after := _, guard := _ }) (v := ?vz6) rfl (by kernel_rfl) (by kernel_rfl) (by decide +kernel) (by rfl) (fun _ _ _ h => h) (Or.inl ⟨by rfl, ?yz6⟩) (ph_one (by kernel_rfl) hS1) ?rz6
   case yz6 => (intro w hSw; (try dsimp only at hSw); go_simp; try (with_reducible rfl))
   try simp only [Act.put, List.setIfInBounds_toArray, List.set_cons_zero, List.set_cons_succ]
   refine AnyTwo.takeAny HT12 (i := 6) (oi := { dst := some 51, op := _, type := _, pos := _, after := _, guard := _ }) (v := ?vz7) rfl (by kernel_rfl) (by kernel_rfl) (by decide +kernel) (by rfl) (fun _ _ _ h => h) (Or.inl ⟨by rfl, ?yz7⟩) (ph_one (by kernel_rfl) hS1) ?rz7
   case yz7 => (intro w hSw; (try dsimp only at hSw); go_simp; try (with_reducible rfl))
   try simp only [Act.put, List.setIfInBounds_toArray, List.set_cons_zero, List.set_cons_succ]
   refine AnyTwo.takeAny HT12 (i := 7) (oi := { dst := some 52, op := _, type := _, pos := _, after := _, guard := _ }) (v := ?vz8) rfl (by kernel_rfl) (by kernel_rfl) (by decide +kernel) (by rfl) (fun _ _ _ h => h) (Or.inl ⟨by rfl, ?yz8⟩) (ph_one (by kernel_rfl) hS1) ?rz8
   case yz8 => (intro w hSw; (try dsimp only at hSw); go_simp; try (with_reducible rfl))
   try simp only [Act.put, List.setIfInBounds_toArray, List.set_cons_zero, List.set_cons_succ]
   refine AnyTwo.step (i := 8) (o := { dst := some 53, op := _, type := _, pos := _, after := _, guard := _ }) (by kernel_rfl) rfl (fun K hK => ?_)
   go_simp
   refine (HDK.out _ _ _ (HI1.out.below hS1.1) (HI2.out.below hS1.1)).mono ?_
   rintro e w7 ⟨rfl, hb7⟩
   have hS1' : ((fun w' => Below W8.heap.size W8 w' ∧ (gX < w'.heap.size ∧ w'.cell? ⟨gX, 0, none⟩ = some (.int .i64 X.kind) ∧ w'.cell? ⟨gX, 1, none⟩ = some (.int .i64 X.num) ∧ w'.cell? ⟨gX, 2, none⟩ = some (.slice aX X.kids.length cX)) ∧ (g1 < w'.heap.size ∧ w'.cell? ⟨g1, q, none⟩ = some (.slice ua n uc)) ∧ (g2 < w'.heap.size ∧ w'.cell? ⟨g2, q, none⟩ = some (.slice ub n ud)))) _ := ⟨bAfter hS1.1 hb7, BoxAt.below hS1.2.1 hb7, cellAt_keep hS1.2.2.1 hb7, cellAt_keep hS1.2.2.2 hb7⟩
   refine hK.out _ _ (ph_one (by kernel_rfl) hS1') ?_
   clear hK K hS1
   have hS1 := hS1'
   clear hS1'
   try simp only [Act.put, List.setIfInBounds_toArray, List.set_cons_zero, List.set_cons_succ]
   refine AnyTwo.takeAny HT12 (i := 9) (oi := { dst := some 54, op := _, type := _, pos := _, after := _, guard := _ }) (v := ?vz9) rfl (by kernel_rfl) (by kernel_rfl) (by decide +kernel) (by rfl) (fun _ _ _ h => h) (Or.inl ⟨by rfl, ?yz9⟩) (ph_one (by kernel_rfl) hS1) ?rz9
   case yz9 => (intro w hSw; (try dsimp only at hSw); go_simp; try (with_reducible rfl))
   try simp only [Act.put, List.setIfInBounds_toArray, List.set_cons_zero, List.set_cons_succ]
   refine AnyTwo.takeAny HT12 (i := 10) (oi := { dst := some 55, op := _, type := _, pos := _, after := _, guard := _ }) (v := ?vz10) rfl (by kernel_rfl) (by kernel_rfl) (by decide +kernel) (by rfl) (fun _ _ _ h => h) (Or.inl ⟨by rfl, ?yz10⟩) (ph_one (by kernel_rfl) hS1) ?rz10
   case yz10 => (intro w hSw; (try dsimp only at hSw); go_simp; try (with_reducible rfl))
   try simp only [Act.put, List.setIfInBounds_toArray, List.set_cons_zero, List.set_cons_succ]
   refine AnyTwo.takeAny HT12 (i := 11) (oi := { dst := some 56, op := _, type := _, pos := _, after := _, guard := _ }) (v := ?vz11) rfl (by kernel_rfl) (by kernel_rfl) (by decide +kernel) (by rfl) (fun _ _ _ h => h) (Or.inl ⟨by rfl, ?yz11⟩) (ph_one (by kernel_rfl) hS1) ?rz11
   case yz11 => (intro w hSw; (try dsimp only at hSw); go_simp; try (with_reducible rfl))
   try simp only [Act.put, List.setIfInBounds_toArray, List.set_cons_zero, List.set_cons_succ]
   refine AnyTwo.takeAny HT12 (i := 12) (oi := { dst := some 57, op := _, type := _, pos := _, after := _, guard := _ }) (v := ?vz12) rfl (by kernel_rfl) (by kernel_rfl) (by decide +kernel) (by rfl) (fun _ _ _ h => h) (Or.inl ⟨by rfl, ?yz12⟩) (ph_one (by kernel_rfl) hS1) ?rz12
   case yz12 => (intro w hSw; (try dsimp only at hSw); go_simp; try (with_reducible rfl))
   try simp only [Act.put, List.setIfInBounds_toArray, List.set_cons_zero, List.set_cons_succ]
   refine AnyTwo.takeAny HT12 (i := 13) (oi := { dst := some 58, op := _, type := _, pos := _, after := _, guard := _ }) (v := ?vz13) rfl (by kernel_rfl) (by kernel_rfl) (by decide +kernel) (by rfl) (fun _ _ _ h => h) (Or.inl ⟨by rfl, ?yz13⟩) (ph_one (by kernel_rfl) hS1) ?rz13
   case yz13 => (intro w hSw; (try dsimp only at hSw); go_simp; try (with_reducible rfl))
   try simp only [Act.put, List.setIfInBounds_toArray, List.set_cons_zero, List.set_cons_succ]
   refine AnyTwo.takeAny HT12 (i := 14) (oi := { dst := some 59, op := _, type := _, pos := _, after := _, guard := _ }) (v := ?vz14) rfl (by kernel_rfl) (by kernel_rfl) (by decide +kernel) (by rfl) (fun _ _ _ h => h) (Or.inl ⟨by rfl, ?yz14⟩) (ph_one (by kernel_rfl) hS1) ?rz14
   case yz14 => (intro w hSw; (try dsimp only at hSw); go_simp; try (with_reducible rfl))
   try simp only [Act.put, List.setIfInBounds_toArray, List.set_cons_zero, List.set_cons_succ]
   refine AnyTwo.takeAny HT12 (i := 15) (oi := { dst := some 60, op := _, type := _, pos := _, after := _, guard := _ }) (v := ?vz15) rfl (by kernel_rfl) (by kernel_rfl) (by decide +kernel) (by rfl) (fun _ _ _ h => h) (Or.inl ⟨by rfl, ?yz15⟩) (ph_one (by kernel_rfl) hS1) ?rz15
   case yz15 => (intro w hSw; (try dsimp only at hSw); go_simp; try (with_reducible rfl))
   try simp only [Act.put, List.setIfInBounds_toArray, List.set_cons_zero, List.set_cons_succ]
   refine AnyTwo.step (i := 16) (o := { dst := some 61, op := _, type := _, pos := _, after := _, guard := _ }) (by kernel_rfl) rfl (fun K hK => ?_)
   go_simp
   refine (HRO.out _ _ ⟨_, rfl, VX.out.sl.below hS1.1⟩).mono ?_
   rintro e w7 ⟨rfl, hb7⟩
   have hS1' : ((fun w' => Below W8.heap.size W8 w' ∧ (gX < w'.heap.size ∧ w'.cell? ⟨gX, 0, none⟩ = some (.int .i64 X.kind) ∧ w'.cell? ⟨gX, 1, none⟩ = some (.int .i64 X.num) ∧ w'.cell? ⟨gX, 2, none⟩ = some (.slice aX X.kids.length cX)) ∧ (g1 < w'.heap.size ∧ w'.cell? ⟨g1, q, none⟩ = some (.slice ua n uc)) ∧ (g2 < w'.heap.size ∧ w'.cell? ⟨g2, q, none⟩ = some (.slice ub n ud)))) _ := ⟨bAfter hS1.1 hb7, BoxAt.below hS1.2.1 hb7, cellAt_keep hS1.2.2.1 hb7, cellAt_keep hS1.2.2.2 hb7⟩
   refine hK.out _ _ (ph_one (by kernel_rfl) hS1') ?_
   clear hK K hS1
   have hS1 := hS1'
   clear hS1'
   try simp only [Act.put, List.setIfInBounds_toArray, List.set_cons_zero, List.set_cons_succ]
   refine AnyTwo.takeAny HT12 (i := 17) (oi := { dst := some 62, op := _, type := _, pos := _, after := _, guard := _ }) (v := .bool false) rfl (by kernel_rfl) (by kernel_rfl) (by decide +kernel) (by rfl) (fun _ _ _ h => h) (Or.inl ⟨by rfl, ?yz16⟩) (ph_one (by kernel_rfl) hS1) ?rz16
   case yz16 => (intro w hSw; (try dsimp only at hSw); go_simp; try simp [*])
   try simp only [Act.put, List.setIfInBounds_toArray, List.set_cons_zero, List.set_cons_succ]
   refine AnyTwo.step (i := 18) (o := { dst := some 63, op := _, type := _, pos := _, after := _, guard := _ }) (by kernel_rfl) rfl (fun K hK => ?_)
   go_simp
   refine hK.out _ _ (ph_end (by kernel_rfl) hS1) ?_
   clear hK K
   try simp only [Act.put, List.setIfInBounds_toArray, List.set_cons_zero, List.set_cons_succ]
   refine AnyTwo.done (by kernel_rfl) ?_ _
   clear HT12
   have hb := hS1.1
   replace HBW := tuck (bAfter HBW.out hb)
   clear hb hS1
   go_wp2_with fail
   go_roundw
   case rel => exact ⟨q + 1, by omega, by go_num, HBW.out⟩
   case measure => simp [intOf]; omega
set_option maxRecDepth 100000 in
theorem lifted (os : Os) (started : os.Started) (H : Type) (enc : TypeId × Value → H) :
  ReturnsInHanded {} Tryz.checked os 7 .any (Rows.fnRedexPlacesSpec.pre6 enc Tryz.prog Tryz.f7 Rows.fnRedexPlacesRow.domain false) (Rows.fnRedexPlacesSpec.post enc Tryz.prog Tryz.f7 false true false false) := by
 refine returnsInHanded_of_change (C := Tryz.checked) own started (by kernel_rfl) Tryz.func7
  (ChangeSpec.witness6 (enc := enc) (C := Tryz.checked) false ⟨#[], #[.slice none 0 0], []⟩ 8 (by kernel_rfl) (by kernel_rfl) (by kernel_rfl) (by kernel_rfl)) ?_
 intro W base args ds gs before hval0 hW hcnd _
 have hval : ∀ (j : Nat) t v, Tryz.f7.params[j]? = some t → args[j]? = some v → Value.okWide Tryz.prog W .any base t v := hval0
 have hW' := hW
 obtain ⟨p, q, hA0, hV, rfl, hfz, hnd⟩ := hW
 have hA : DataW.TrodAll enc Tryz.prog W 0 (fun _ => true) true Tryz.f7.params.toList args.toList ds p := hA0
 rw [Tryz.params7] at hA hval
 obtain ⟨v0, vs0, d0, ds0, p0, q0, hargs, rfl, rfl, h0, r0⟩ := trodAll_cons hA
 obtain ⟨rfl, rfl, rfl⟩ := trodAll_nil r0
 obtain rfl : args = #[v0] := by cases args; simp_all
 obtain ⟨U0, ad0, bb0, oo0, len0, cap0, rfl, hlc0, hcm0, hbl0, hby0⟩ := open_bytes (hval 0 43 v0 rfl rfl) h0
 refine (walk U0 ad0 bb0 oo0 len0 cap0 W hlc0 hcm0 hby0).mono fun e W' ⟨he, hb⟩ => ?_
 subst he
 exact ⟨_, rfl, law_post rfl rfl (fun gs h => by subst h; rfl) (by rw [Tryz.params7]; exact readable_FnRedexPlaces) laid hW' hb⟩
theorem over : Rows.fnRedexPlacesRow.holds Tryz.pinned (OpenSpec.ofChange Rows.fnRedexPlacesSpec) :=
 OpenClaim.holds_of_wide 7 Tryz.f7 rfl rfl rfl rfl rfl rfl rfl ⟨rfl, rfl, rfl, rfl, rfl⟩ rfl rfl rfl rfl rfl (by kernel_rfl) Tryz.func7 (by kernel_rfl)
  (of_decide_eq_true (by kernel_rfl)) (by unfold Func.isWrapper; first | (rw [if_pos (by decide +kernel)]; kernel_rfl) | (rw [if_neg (by decide +kernel)]; exact ⟨rfl, rfl⟩))
  (fun os started H enc _ => lifted os started H enc)
theorem proved : Rows.FnRedexPlacesSaid :=
 over
end Go.Proofs.YtihlbbbajaepoaaGreat.fnRedexPlaces
