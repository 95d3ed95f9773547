/-
  The law FnTermParts: whatever the bytes, the operands of a valid term are valid, and a term with one operand more is not.
-/
import Derived.Test.YtcnpenmhngplfaaB09
import Derived.Test.YtcnpenmhngplfaaB25
import Derived.Test.YtcnpenmhngplfaaB28
import Derived.Test.YtcnpenmhngplfaaB29
import Derived.Test.YtcnpenmhngplfaaB33
import Derived.IntWalk
namespace Go.Proofs.Ytcnpenmhngplfaa.fnTermParts
open Go.ChangeShapes Go.WideShapes Go.ChangeAt Go.RowKit Go.Deep
set_option linter.unusedVariables false
theorem readable_FnTermParts : ∀ t ∈ (#[22] : Array TypeId).toList, Try.prog.readableRec t = true ∧ t < Try.prog.types.size := by
 intro t ht
 simp at ht
 subst ht
 exact ⟨by kernel_rfl, of_decide_eq_true (by kernel_rfl)⟩
theorem laid : laidOutB Try.prog = true := by kernel_rfl
set_option maxRecDepth 100000 in
set_option maxHeartbeats 1600000 in
theorem walk (U : Nat → Int) (a : Option Addr) (b o len cap : Nat) (w : World) (hlc : len ≤ cap) (hcm : cap ≤ maxLen) (hby : Bytes U a b o len w) : Calls Try.prog 3 #[.slice a len cap] w fun e w' => e = .returned (.bool true) ∧ Below w.heap.size w w' := by
 unfold maxLen at hcm
 by_cases hl : 1048576 < len
 ·have hl' : (1048576 : Int) < (len : Int) := by omega
  clear hby
  go_enter Try.func3, Try.ntmps3
  go_wp2
  go_ret
  exact ⟨rfl, Below.refl _ _⟩
 have hl' : ¬ (1048576 : Int) < (len : Int) := by omega
 have HD := tuck (dTermValid_any w (by omega) hlc hby)
 clear hby
 go_enter Try.func3, Try.ntmps3
 go_wp2_with fail
 refine HD.out.mono ?_
 rintro e w1 ⟨T, v, rfl, ⟨s, rfl, hin⟩, hsz, hb⟩
 obtain ⟨aV, cV, rfl⟩ := hin.form
 have V := tuck (TV.new (hin.mono (Nat.zero_le _)))
 have HB := tuck (bAfter hb (below1 w1 (.cells #[.int .i64 T.kind, .int .i64 T.num, .slice aV T.kids.length cV] 25)))
 have HSZ : Hid (sizes T.kids ≤ 1048576) := tuck (by have := T.size_eq; omega)
 clear hin hb HD hsz
 go_wp2_with fail
 generalize w1.alloc (.cells #[.int .i64 T.kind, .int .i64 T.num, .slice aV T.kids.length cV] 25) = U0 at *
 generalize w1.heap.size = gV at *
 by_cases hv : T.Valid
 rotate_left
 ·skip
  have HVI : Hid (∀ (w : World) (v : Value), TmIn w 0 T v → Calls Try.prog 5 #[v] w (BoolPost w false)) := tuck fun w v h => by
   have h2 := validI_any T w v h; rwa [tr_not hv] at h2
  have HVS : Hid (∀ (w : World) (v : Value), TmIn w 0 T v → Calls Try.prog 6 #[v] w (BoolPost w false)) := tuck fun w v h => by
   have h2 := validS_any T w v h; rwa [tr_not hv] at h2
  clear hv
  refine (HVI.out _ _ V.out.tm).mono ?_
  rintro e u21 ⟨rfl, hb⟩
  replace V := tuck (V.out.below hb)
  replace HB := tuck (bAfter HB.out hb)
  clear hb
  obtain ⟨zV, c0V, c1V, c2V, cfV⟩ := V.out.facts
  go_wp2_with fail
  refine (HVS.out _ _ V.out.tm).mono ?_
  rintro e u22 ⟨rfl, hb⟩
  clear zV c0V c1V c2V cfV
  replace V := tuck (V.out.below hb)
  replace HB := tuck (bAfter HB.out hb)
  clear hb
  obtain ⟨zV, c0V, c1V, c2V, cfV⟩ := V.out.facts
  go_wp2_with fail
  refine (HVS.out _ _ V.out.tm).mono ?_
  rintro e u23 ⟨rfl, hb⟩
  clear zV c0V c1V c2V cfV
  replace V := tuck (V.out.below hb)
  replace HB := tuck (bAfter HB.out hb)
  clear hb
  obtain ⟨zV, c0V, c1V, c2V, cfV⟩ := V.out.facts
  go_wp2_with fail
  go_ret
  exact ⟨rfl, HB.out⟩
 have HVI : Hid (∀ (w : World) (v : Value), TmIn w 0 T v → Calls Try.prog 5 #[v] w (BoolPost w true)) := tuck fun w v h => by
  have h2 := validI_any T w v h; rwa [tr_of hv] at h2
 have HVS : Hid (∀ (w : World) (v : Value), TmIn w 0 T v → Calls Try.prog 6 #[v] w (BoolPost w true)) := tuck fun w v h => by
  have h2 := validS_any T w v h; rwa [tr_of hv] at h2
 have HK : Hid (∀ (q : Nat) (h1 : q < T.kids.length) (w : World) (v : Value), TmIn w 0 T.kids[q] v → Calls Try.prog 5 #[v] w (BoolPost w true)) := tuck fun q h1 w v h => by
  have h2 := validI_any _ w v h; rwa [tr_of (hv.get h1)] at h2
 have HVX : Hid (∀ (w : World) (s : Value), SlIn w 0 (T.kids ++ [Tm.mk 7 0 []]) s → Calls Try.prog 5 #[.agg #[.int .i64 T.kind, .int .i64 T.num, s]] w (BoolPost w false)) := tuck fun w s h => by
  have h2 := validI_any (.mk T.kind T.num (T.kids ++ [Tm.mk 7 0 []])) w _ ⟨s, rfl, h⟩
  rwa [tr_not (fun hx => by
   have h3 : arity T.kind = ((T.kids.length : Nat) : Int) := hv.root.1
   have h4 : arity T.kind = (((T.kids ++ [Tm.mk 7 0 []]).length : Nat) : Int) := hx.root.1
   rw [List.length_append, List.length_singleton] at h4
   omega)] at h2
 have hk4 : T.kids.length ≤ 400 := by have h3 := (valid_bounds hv).1; have h4 := length_le_sizes T.kids; omega
 clear hv
 refine (HVI.out _ _ V.out.tm).mono ?_
 rintro e u1 ⟨rfl, hb⟩
 replace V := tuck (V.out.below hb)
 replace HB := tuck (bAfter HB.out hb)
 clear hb
 obtain ⟨zV, c0V, c1V, c2V, cfV⟩ := V.out.facts
 go_wp2_with fail
 refine (HVS.out _ _ V.out.tm).mono ?_
 rintro e u2 ⟨rfl, hb⟩
 clear zV c0V c1V c2V cfV
 replace V := tuck (V.out.below hb)
 replace HB := tuck (bAfter HB.out hb)
 clear hb
 obtain ⟨zV, c0V, c1V, c2V, cfV⟩ := V.out.facts
 go_wp2_with fail
 clear zV c0V c1V c2V cfV
 go_loopw [5] (fun i wr => ∃ (q : Nat), q ≤ T.kids.length ∧ i = .int .i64 q ∧ Below u2.heap.size u2 wr) (fun i _ => T.kids.length - (intOf i).toNat)
 case atStart => exact ⟨0, Nat.zero_le _, rfl, Below.refl _ _⟩
 case round =>
  obtain ⟨q, hq, rfl, hb⟩ := hrel
  have VR := tuck (V.out.below hb)
  have HBW := tuck hb
  clear hb
  obtain ⟨z, c0, c1, c2, cf⟩ := VR.out.facts
  by_cases hlt : q < T.kids.length
  rotate_left
  ·have hlti : ¬ ((q : Int) < (T.kids.length : Int)) := by omega
   have HBR := tuck (bAfter HB.out HBW.out)
   have HOLD : Hid (∀ w', Below wr.heap.size wr w' → (fun w' : World => Below wr.heap.size wr w' ∧ gV < w'.heap.size ∧ w'.cell? ⟨gV, 0, none⟩ = some (.int .i64 T.kind) ∧ w'.cell? ⟨gV, 1, none⟩ = some (.int .i64 T.num) ∧ w'.cell? ⟨gV, 2, none⟩ = some (.slice aV T.kids.length cV)) w') := tuck fun w' h => ⟨h, (VR.out.below h).facts.1, (VR.out.below h).facts.2.1, (VR.out.below h).facts.2.2.1, (VR.out.below h).facts.2.2.2.1⟩
   have HE : Hid (∀ (W : World), wr.heap.size ≤ W.heap.size → RowT wr.heap.size wr.heap.size [] (.slice (some ⟨W.heap.size, 0, none⟩) 0 0) (W.alloc (.cells #[] 25))) := tuck fun W h =>
    ⟨[], rfl, World.ownsRow_lit (base := wr.heap.size) (e := 25) (size := 3) W #[] 0 h (by simp [maxLen]) (by simp), fun x h => (by cases h)⟩
   have hsl := VR.out.sl
   have HA1 : Hid (∀ (W : World) (g : Nat), Below wr.heap.size wr W → RowT wr.heap.size wr.heap.size [] (.slice (some ⟨g, 0, none⟩) 0 0) W → ∃ va vc W1, (Builtin.append_ #[23, 23] 23 #[.slice (some ⟨g, 0, none⟩) 0 0, .slice aV T.kids.length cV]).run Try.prog W = .ok (.slice va T.kids.length vc) W1 ∧ RowT wr.heap.size wr.heap.size T.kids (.slice va T.kids.length vc) W1 ∧ Below wr.heap.size wr W1 ∧ W.grownBy W1 (some g) ∧ ((Value.slice va T.kids.length vc).ownBlock = some g ∨ (Value.slice va T.kids.length vc).ownBlock = some W.heap.size)) := tuck fun W g hb hr => by
    have hx : SlX W (OffT wr.heap.size wr.heap.size (.slice (some ⟨g, 0, none⟩) 0 0)) T.kids (.slice aV T.kids.length cV) := (SlX.of_sl (X := fun _ => False) hsl (fun _ h => h.elim)).to fun p u _ hc => by
     have hp := World.block_lt_of_cell? wr p hc
     refine ⟨?_, (hb.cell hp).trans hc⟩
     rintro (h | h)
     ·omega
     ·have := (hr.lt _ h).1; omega
    obtain ⟨v', W', h1, h2, h3, h4⟩ := hr.many hx rfl hb.size (by simp; omega)
    obtain ⟨va, vc, rfl⟩ := h2.form
    simp only [List.nil_append] at h1 h2 h4
    exact ⟨va, vc, W', h1, h2, hb.grown h3 hb.size (fun k hk => (hr.lt k hk).1), h3, h4⟩
   have HA2 : Hid (∀ (W : World) (va : Option Addr) (vc h : Nat), Below wr.heap.size wr W → RowT wr.heap.size wr.heap.size T.kids (.slice va T.kids.length vc) W → W.heap[h]? = some (.cells #[.int .i64 7, .int .i64 0, .slice none 0 0] 25 (0, 0)) → wr.heap.size ≤ h → (Value.slice va T.kids.length vc).ownBlock ≠ some h → ∃ vb vd W2, (Builtin.append_ #[23, 23] 23 #[.slice va T.kids.length vc, .slice (some ⟨h, 0, none⟩) 1 1]).run Try.prog W = .ok (.slice vb (T.kids.length + 1) vd) W2 ∧ SlIn W2 0 (T.kids ++ [Tm.mk 7 0 []]) (.slice vb (T.kids.length + 1) vd) ∧ Below wr.heap.size wr W2) := tuck fun W va vc h hb hr hz hh hne => by
    obtain ⟨zz, zc, -⟩ := block_of_cells hz
    have hx : SlX W (OffT wr.heap.size wr.heap.size (.slice va T.kids.length vc)) [Tm.mk 7 0 []] (.slice (some ⟨h, 0, none⟩) [Tm.mk 7 0 []].length 1) := SlX.mk (by simp [maxLen]) (fun hx => by
     rcases hx with hx | hx
     ·omega
     ·exact hne hx) (fun i hi => by
     have : i = 0 := by simp at hi; omega
     subst this
     exact ⟨.slice none 0 0, zc 0, zc 1, zc 2, SlX.nil _ _ _ _⟩)
    obtain ⟨v', W', h1, h2, h3, h4⟩ := hr.many hx rfl hb.size (by simp; omega)
    obtain ⟨vb, vd, rfl⟩ := h2.form' (q := T.kids.length + 1) (by simp)
    exact ⟨vb, vd, W', h1, SlX.sl (h2.done' (by simp) (by unfold maxLen; omega)), hb.grown h3 hb.size (fun k hk => (hr.lt k hk).1)⟩
   clear hsl
   go_upto_region 12 with fail
   refine AnyTwo.begin (fun w' : World => Below wr.heap.size wr w' ∧ gV < w'.heap.size ∧ w'.cell? ⟨gV, 0, none⟩ = some (.int .i64 T.kind) ∧ w'.cell? ⟨gV, 1, none⟩ = some (.int .i64 T.num) ∧ w'.cell? ⟨gV, 2, none⟩ = some (.slice aV T.kids.length cV)) (fun _ => True) 14 (by kernel_rfl) ?_
   have hS1 : (fun w' : World => Below wr.heap.size wr w' ∧ gV < w'.heap.size ∧ w'.cell? ⟨gV, 0, none⟩ = some (.int .i64 T.kind) ∧ w'.cell? ⟨gV, 1, none⟩ = some (.int .i64 T.num) ∧ w'.cell? ⟨gV, 2, none⟩ = some (.slice aV T.kids.length cV)) wr.drew := HOLD.out _ (Below.refl _ _).drew
   refine AnyTwo.take (i := 0) (oi := ⟨some 39, _, _, _, _, _⟩) (v := ?vt0) rfl (by kernel_rfl) (by kernel_rfl) (by decide +kernel) (by kernel_rfl) (by rfl) (by kernel_rfl) (fun _ _ _ h => h) (Or.inl ⟨by rfl, ?yt0⟩) hS1 ?rt0
   case yt0 => (intro w hSw; (try dsimp only at hSw); go_simp; try (with_reducible rfl))
   try simp only [Act.put, List.setIfInBounds_toArray, List.set_cons_zero, List.set_cons_succ]
   refine AnyTwo.take (i := 1) (oi := ⟨some 40, _, _, _, _, _⟩) (v := ?vt1) rfl (by kernel_rfl) (by kernel_rfl) (by decide +kernel) (by kernel_rfl) (by rfl) (by kernel_rfl) (fun _ _ _ h => h) (Or.inl ⟨by rfl, ?yt1⟩) hS1 ?rt1
   case yt1 => (intro w hSw; (try dsimp only at hSw); go_simp; try (with_reducible rfl))
   try simp only [Act.put, List.setIfInBounds_toArray, List.set_cons_zero, List.set_cons_succ]
   refine AnyTwo.take (i := 2) (oi := ⟨some 41, _, _, _, _, _⟩) (v := ?vt2) rfl (by kernel_rfl) (by kernel_rfl) (by decide +kernel) (by kernel_rfl) (by rfl) (by kernel_rfl) (fun _ _ _ h => h) (Or.inl ⟨by rfl, ?yt2⟩) hS1 ?rt2
   case yt2 => (intro w hSw; (try dsimp only at hSw); go_simp; try (with_reducible rfl))
   try simp only [Act.put, List.setIfInBounds_toArray, List.set_cons_zero, List.set_cons_succ]
   refine AnyTwo.take (i := 3) (oi := ⟨some 42, _, _, _, _, _⟩) (v := ?vt3) rfl (by kernel_rfl) (by kernel_rfl) (by decide +kernel) (by kernel_rfl) (by rfl) (by kernel_rfl) (fun _ _ _ h => h) (Or.inl ⟨by rfl, ?yt3⟩) hS1 ?rt3
   case yt3 => (intro w hSw; (try dsimp only at hSw); go_simp; try (with_reducible rfl))
   try simp only [Act.put, List.setIfInBounds_toArray, List.set_cons_zero, List.set_cons_succ]
   refine AnyTwo.take (i := 5) (oi := ⟨some 44, _, _, _, _, _⟩) (v := ?vt5) rfl (by kernel_rfl) (by kernel_rfl) (by decide +kernel) (by kernel_rfl) (by rfl) (by kernel_rfl) (fun _ _ _ h => h) (Or.inl ⟨by rfl, ?yt5⟩) hS1 ?rt5
   case yt5 => (intro w hSw; (try dsimp only at hSw); go_simp; try (with_reducible rfl))
   try simp only [Act.put, List.setIfInBounds_toArray, List.set_cons_zero, List.set_cons_succ]
   refine AnyTwo.take (i := 6) (oi := ⟨some 45, _, _, _, _, _⟩) (v := ?vt6) rfl (by kernel_rfl) (by kernel_rfl) (by decide +kernel) (by kernel_rfl) (by rfl) (by kernel_rfl) (fun _ _ _ h => h) (Or.inl ⟨by rfl, ?yt6⟩) hS1 ?rt6
   case yt6 => (intro w hSw; (try dsimp only at hSw); go_simp; try (with_reducible rfl))
   try simp only [Act.put, List.setIfInBounds_toArray, List.set_cons_zero, List.set_cons_succ]
   refine AnyTwo.take (i := 8) (oi := ⟨some 47, _, _, _, _, _⟩) (v := ?vt8) rfl (by kernel_rfl) (by kernel_rfl) (by decide +kernel) (by kernel_rfl) (by rfl) (by kernel_rfl) (fun _ _ _ h => h) (Or.inl ⟨by rfl, ?yt8⟩) hS1 ?rt8
   case yt8 => (intro w hSw; (try dsimp only at hSw); go_simp; try (with_reducible rfl))
   try simp only [Act.put, List.setIfInBounds_toArray, List.set_cons_zero, List.set_cons_succ]
   refine AnyTwo.fork (i := 4) (o := ⟨some 43, _, _, _, _, _⟩) (j := 9) (o' := ⟨some 48, _, _, _, _, _⟩) (by kernel_rfl) rfl rfl (fun K hK => ?_) (fun K hK => ?_)
   ·go_simp
    have e0 : RowT wr.heap.size wr.heap.size [] (.slice (some ⟨wr.heap.size, 0, none⟩) 0 0) (wr.alloc (.cells #[] 25)).drew := (HE.out wr (Nat.le_refl _)).below (Below.refl _ _).drew
    have hS1' : (fun w' : World => Below wr.heap.size wr w' ∧ gV < w'.heap.size ∧ w'.cell? ⟨gV, 0, none⟩ = some (.int .i64 T.kind) ∧ w'.cell? ⟨gV, 1, none⟩ = some (.int .i64 T.num) ∧ w'.cell? ⟨gV, 2, none⟩ = some (.slice aV T.kids.length cV)) _ := HOLD.out _ (below1 wr (.cells #[] 25)).drew
    refine hK.out _ _ (ph_one (by kernel_rfl) hS1') ?_
    clear hK K hS1
    have hS1 := hS1'
    clear hS1'
    try simp only [Act.put, List.setIfInBounds_toArray, List.set_cons_zero, List.set_cons_succ]
    refine AnyTwo.fork (i := 7) (o := ⟨some 46, _, _, _, _, _⟩) (j := 9) (o' := ⟨some 48, _, _, _, _, _⟩) (by kernel_rfl) rfl rfl (fun K hK => ?_) (fun K hK => ?_)
    ·skip
     obtain ⟨va1, vc1, W1, h8, r8, b8, g8, f8⟩ := HA1.out _ _ hS1.1 e0
     rw [if_pos (by kernel_rfl)]
     refine Go.Lib.wp_append_run _ _ _ _ _ rfl _ _ rfl rfl _ _ h8 ?_
     have hS1' : (fun w' : World => Below wr.heap.size wr w' ∧ gV < w'.heap.size ∧ w'.cell? ⟨gV, 0, none⟩ = some (.int .i64 T.kind) ∧ w'.cell? ⟨gV, 1, none⟩ = some (.int .i64 T.num) ∧ w'.cell? ⟨gV, 2, none⟩ = some (.slice aV T.kids.length cV)) _ := HOLD.out _ b8
     refine hK.out _ _ (ph_one (by kernel_rfl) hS1') ?_
     clear hK K hS1
     have hS1 := hS1'
     clear hS1'
     try simp only [Act.put, List.setIfInBounds_toArray, List.set_cons_zero, List.set_cons_succ]
     refine AnyTwo.step (i := 9) (o := ⟨some 48, _, _, _, _, _⟩) (by kernel_rfl) rfl (fun K hK => ?_)
     go_simp
     have z10 := heap_new W1 (.cells #[.int .i64 7, .int .i64 0, .slice none 0 0] 25)
     have n10 : (Value.slice va1 T.kids.length vc1).ownBlock ≠ some W1.heap.size := fun e => by have := (r8.lt _ e).2; omega
     have r10 := r8.below (below1 W1 (.cells #[.int .i64 7, .int .i64 0, .slice none 0 0] 25))
     have hS1' : (fun w' : World => Below wr.heap.size wr w' ∧ gV < w'.heap.size ∧ w'.cell? ⟨gV, 0, none⟩ = some (.int .i64 T.kind) ∧ w'.cell? ⟨gV, 1, none⟩ = some (.int .i64 T.num) ∧ w'.cell? ⟨gV, 2, none⟩ = some (.slice aV T.kids.length cV)) _ := HOLD.out _ (bAfter b8 (below1 W1 (.cells #[.int .i64 7, .int .i64 0, .slice none 0 0] 25)))
     refine hK.out _ _ (ph_one (by kernel_rfl) hS1') ?_
     clear hK K hS1
     have hS1 := hS1'
     clear hS1'
     try simp only [Act.put, List.setIfInBounds_toArray, List.set_cons_zero, List.set_cons_succ]
     obtain ⟨vb, vd, W2, h11, x11, b11⟩ := HA2.out _ _ _ _ hS1.1 r10 z10 b8.size n10
     refine AnyTwo.step (i := 10) (o := ⟨some 49, _, _, _, _, _⟩) (by kernel_rfl) rfl (fun K hK => ?_)
     rw [if_pos (by kernel_rfl)]
     refine Go.Lib.wp_append_run _ _ _ _ _ rfl _ _ rfl rfl _ _ h11 ?_
     have hS1' : (fun w' : World => Below wr.heap.size wr w' ∧ gV < w'.heap.size ∧ w'.cell? ⟨gV, 0, none⟩ = some (.int .i64 T.kind) ∧ w'.cell? ⟨gV, 1, none⟩ = some (.int .i64 T.num) ∧ w'.cell? ⟨gV, 2, none⟩ = some (.slice aV T.kids.length cV)) _ := HOLD.out _ b11
     refine hK.out _ _ (ph_one (by kernel_rfl) hS1') ?_
     clear hK K hS1
     have hS1 := hS1'
     clear hS1'
     try simp only [Act.put, List.setIfInBounds_toArray, List.set_cons_zero, List.set_cons_succ]
     refine AnyTwo.take (i := 11) (oi := ⟨some 50, _, _, _, _, _⟩) (v := ?vp11) rfl (by kernel_rfl) (by kernel_rfl) (by decide +kernel) (by kernel_rfl) (by rfl) (by kernel_rfl) (fun _ _ _ h => h) (Or.inl ⟨by rfl, ?yp11⟩) hS1 ?rp11
     case yp11 => (intro w hSw; (try dsimp only at hSw); go_simp; try (with_reducible rfl))
     try simp only [Act.put, List.setIfInBounds_toArray, List.set_cons_zero, List.set_cons_succ]
     refine AnyTwo.step (i := 12) (o := ⟨some 51, _, _, _, _, _⟩) (by kernel_rfl) rfl (fun K hK => ?_)
     go_simp
     refine (HVX.out _ _ x11).mono ?_
     rintro e W3 ⟨rfl, hb3⟩
     have hS1' : (fun w' : World => Below wr.heap.size wr w' ∧ gV < w'.heap.size ∧ w'.cell? ⟨gV, 0, none⟩ = some (.int .i64 T.kind) ∧ w'.cell? ⟨gV, 1, none⟩ = some (.int .i64 T.num) ∧ w'.cell? ⟨gV, 2, none⟩ = some (.slice aV T.kids.length cV)) _ := HOLD.out _ (bAfter b11 hb3)
     refine hK.out _ _ (ph_one (by kernel_rfl) hS1') ?_
     clear hK K hS1
     have hS1 := hS1'
     clear hS1'
     try simp only [Act.put, List.setIfInBounds_toArray, List.set_cons_zero, List.set_cons_succ]
     refine AnyTwo.take (i := 13) (oi := ⟨some 52, _, _, _, _, _⟩) (v := ?vp13) rfl (by kernel_rfl) (by kernel_rfl) (by decide +kernel) (by kernel_rfl) (by rfl) (by kernel_rfl) (fun _ _ _ h => h) (Or.inl ⟨by rfl, ?yp13⟩) hS1 ?rp13
     case yp13 => (intro w hSw; (try dsimp only at hSw); go_simp; try (with_reducible rfl))
     try simp only [Act.put, List.setIfInBounds_toArray, List.set_cons_zero, List.set_cons_succ]
     refine AnyTwo.step (i := 14) (o := ⟨some 2, _, _, _, _, _⟩) (by kernel_rfl) rfl (fun K hK => ?_)
     go_simp
     refine hK.out _ _ (ph_end (by kernel_rfl) trivial) ?_
     clear hK K
     try simp only [Act.put, List.setIfInBounds_toArray, List.set_cons_zero, List.set_cons_succ]
     refine AnyTwo.done (by kernel_rfl) ?_ _
     go_wp2_with fail
     first | (go_ret; exact ⟨rfl, bAfter HBR.out hS1.1⟩) | exact ⟨rfl, bAfter HBR.out hS1.1⟩
    ·go_simp
     have e1 : RowT wr.heap.size wr.heap.size [] (.slice (some ⟨wr.heap.size, 0, none⟩) 0 0) ((wr.alloc (.cells #[] 25)).alloc (.cells #[.int .i64 7, .int .i64 0, .slice none 0 0] 25)).drew := ((HE.out wr (Nat.le_refl _)).below (below1 (wr.alloc (.cells #[] 25)) (.cells #[.int .i64 7, .int .i64 0, .slice none 0 0] 25))).below (Below.refl _ _).drew
     have hzW : ((wr.alloc (.cells #[] 25)).alloc (.cells #[.int .i64 7, .int .i64 0, .slice none 0 0] 25)).drew.heap.size = wr.heap.size + 2 := (by show ((wr.alloc (.cells #[] 25)).alloc (.cells #[.int .i64 7, .int .i64 0, .slice none 0 0] 25)).heap.size = _; simp)
     have z1 : ((wr.alloc (.cells #[] 25)).alloc (.cells #[.int .i64 7, .int .i64 0, .slice none 0 0] 25)).drew.heap[wr.heap.size + 1]? = some _ := (by have := heap_new (wr.alloc (.cells #[] 25)) (.cells #[.int .i64 7, .int .i64 0, .slice none 0 0] 25); rwa [show (wr.alloc (.cells #[] 25)).heap.size = wr.heap.size + 1 by simp] at this)
     have hS1' : (fun w' : World => Below wr.heap.size wr w' ∧ gV < w'.heap.size ∧ w'.cell? ⟨gV, 0, none⟩ = some (.int .i64 T.kind) ∧ w'.cell? ⟨gV, 1, none⟩ = some (.int .i64 T.num) ∧ w'.cell? ⟨gV, 2, none⟩ = some (.slice aV T.kids.length cV)) _ := HOLD.out _ (below2 wr (.cells #[] 25) (.cells #[.int .i64 7, .int .i64 0, .slice none 0 0] 25)).drew
     refine hK.out _ _ (ph_one (by kernel_rfl) hS1') ?_
     clear hK K hS1
     have hS1 := hS1'
     clear hS1'
     try simp only [Act.put, List.setIfInBounds_toArray, List.set_cons_zero, List.set_cons_succ]
     obtain ⟨va1, vc1, W1, h8, r8, b8, g8, f8⟩ := HA1.out _ _ hS1.1 e1
     refine AnyTwo.step (i := 7) (o := ⟨some 46, _, _, _, _, _⟩) (by kernel_rfl) rfl (fun K hK => ?_)
     rw [if_pos (by kernel_rfl)]
     refine Go.Lib.wp_append_run _ _ _ _ _ rfl _ _ rfl rfl _ _ h8 ?_
     have hS1' : (fun w' : World => Below wr.heap.size wr w' ∧ gV < w'.heap.size ∧ w'.cell? ⟨gV, 0, none⟩ = some (.int .i64 T.kind) ∧ w'.cell? ⟨gV, 1, none⟩ = some (.int .i64 T.num) ∧ w'.cell? ⟨gV, 2, none⟩ = some (.slice aV T.kids.length cV)) _ := HOLD.out _ b8
     refine hK.out _ _ (ph_one (by kernel_rfl) hS1') ?_
     clear hK K hS1
     have hS1 := hS1'
     clear hS1'
     try simp only [Act.put, List.setIfInBounds_toArray, List.set_cons_zero, List.set_cons_succ]
     have z8 := (g8.block (wr.heap.size + 1) (block_of_cells z1).1 (by simp)).trans z1
     have n10 : (Value.slice va1 T.kids.length vc1).ownBlock ≠ some (wr.heap.size + 1) := fun e => by rcases f8 with f8 | f8 <;> (rw [f8] at e; injection e with e; omega)
     obtain ⟨vb, vd, W2, h11, x11, b11⟩ := HA2.out _ _ _ _ hS1.1 r8 z8 (Nat.le_succ _) n10
     refine AnyTwo.step (i := 10) (o := ⟨some 49, _, _, _, _, _⟩) (by kernel_rfl) rfl (fun K hK => ?_)
     rw [if_pos (by kernel_rfl)]
     refine Go.Lib.wp_append_run _ _ _ _ _ rfl _ _ rfl rfl _ _ h11 ?_
     have hS1' : (fun w' : World => Below wr.heap.size wr w' ∧ gV < w'.heap.size ∧ w'.cell? ⟨gV, 0, none⟩ = some (.int .i64 T.kind) ∧ w'.cell? ⟨gV, 1, none⟩ = some (.int .i64 T.num) ∧ w'.cell? ⟨gV, 2, none⟩ = some (.slice aV T.kids.length cV)) _ := HOLD.out _ b11
     refine hK.out _ _ (ph_one (by kernel_rfl) hS1') ?_
     clear hK K hS1
     have hS1 := hS1'
     clear hS1'
     try simp only [Act.put, List.setIfInBounds_toArray, List.set_cons_zero, List.set_cons_succ]
     refine AnyTwo.take (i := 11) (oi := ⟨some 50, _, _, _, _, _⟩) (v := ?vq11) rfl (by kernel_rfl) (by kernel_rfl) (by decide +kernel) (by kernel_rfl) (by rfl) (by kernel_rfl) (fun _ _ _ h => h) (Or.inl ⟨by rfl, ?yq11⟩) hS1 ?rq11
     case yq11 => (intro w hSw; (try dsimp only at hSw); go_simp; try (with_reducible rfl))
     try simp only [Act.put, List.setIfInBounds_toArray, List.set_cons_zero, List.set_cons_succ]
     refine AnyTwo.step (i := 12) (o := ⟨some 51, _, _, _, _, _⟩) (by kernel_rfl) rfl (fun K hK => ?_)
     go_simp
     refine (HVX.out _ _ x11).mono ?_
     rintro e W3 ⟨rfl, hb3⟩
     have hS1' : (fun w' : World => Below wr.heap.size wr w' ∧ gV < w'.heap.size ∧ w'.cell? ⟨gV, 0, none⟩ = some (.int .i64 T.kind) ∧ w'.cell? ⟨gV, 1, none⟩ = some (.int .i64 T.num) ∧ w'.cell? ⟨gV, 2, none⟩ = some (.slice aV T.kids.length cV)) _ := HOLD.out _ (bAfter b11 hb3)
     refine hK.out _ _ (ph_one (by kernel_rfl) hS1') ?_
     clear hK K hS1
     have hS1 := hS1'
     clear hS1'
     try simp only [Act.put, List.setIfInBounds_toArray, List.set_cons_zero, List.set_cons_succ]
     refine AnyTwo.take (i := 13) (oi := ⟨some 52, _, _, _, _, _⟩) (v := ?vq13) rfl (by kernel_rfl) (by kernel_rfl) (by decide +kernel) (by kernel_rfl) (by rfl) (by kernel_rfl) (fun _ _ _ h => h) (Or.inl ⟨by rfl, ?yq13⟩) hS1 ?rq13
     case yq13 => (intro w hSw; (try dsimp only at hSw); go_simp; try (with_reducible rfl))
     try simp only [Act.put, List.setIfInBounds_toArray, List.set_cons_zero, List.set_cons_succ]
     refine AnyTwo.step (i := 14) (o := ⟨some 2, _, _, _, _, _⟩) (by kernel_rfl) rfl (fun K hK => ?_)
     go_simp
     refine hK.out _ _ (ph_end (by kernel_rfl) trivial) ?_
     clear hK K
     try simp only [Act.put, List.setIfInBounds_toArray, List.set_cons_zero, List.set_cons_succ]
     refine AnyTwo.done (by kernel_rfl) ?_ _
     go_wp2_with fail
     first | (go_ret; exact ⟨rfl, bAfter HBR.out hS1.1⟩) | exact ⟨rfl, bAfter HBR.out hS1.1⟩
   ·go_simp
    have z0 : (wr.alloc (.cells #[.int .i64 7, .int .i64 0, .slice none 0 0] 25)).drew.heap[wr.heap.size]? = some _ := heap_new wr (.cells #[.int .i64 7, .int .i64 0, .slice none 0 0] 25)
    have hS1' : (fun w' : World => Below wr.heap.size wr w' ∧ gV < w'.heap.size ∧ w'.cell? ⟨gV, 0, none⟩ = some (.int .i64 T.kind) ∧ w'.cell? ⟨gV, 1, none⟩ = some (.int .i64 T.num) ∧ w'.cell? ⟨gV, 2, none⟩ = some (.slice aV T.kids.length cV)) _ := HOLD.out _ (below1 wr (.cells #[.int .i64 7, .int .i64 0, .slice none 0 0] 25)).drew
    refine hK.out _ _ (ph_one (by kernel_rfl) hS1') ?_
    clear hK K hS1
    have hS1 := hS1'
    clear hS1'
    try simp only [Act.put, List.setIfInBounds_toArray, List.set_cons_zero, List.set_cons_succ]
    refine AnyTwo.step (i := 4) (o := ⟨some 43, _, _, _, _, _⟩) (by kernel_rfl) rfl (fun K hK => ?_)
    go_simp
    have e1 : RowT wr.heap.size wr.heap.size [] (.slice (some ⟨wr.heap.size + 1, 0, none⟩) 0 0) ((wr.alloc (.cells #[.int .i64 7, .int .i64 0, .slice none 0 0] 25)).alloc (.cells #[] 25)).drew := (by have := HE.out (wr.alloc (.cells #[.int .i64 7, .int .i64 0, .slice none 0 0] 25)) (below1 wr (.cells #[.int .i64 7, .int .i64 0, .slice none 0 0] 25)).size; rw [show (wr.alloc (.cells #[.int .i64 7, .int .i64 0, .slice none 0 0] 25)).heap.size = wr.heap.size + 1 by simp] at this; exact this.below (Below.refl _ _).drew)
    have hzW : ((wr.alloc (.cells #[.int .i64 7, .int .i64 0, .slice none 0 0] 25)).alloc (.cells #[] 25)).drew.heap.size = wr.heap.size + 2 := (by show ((wr.alloc (.cells #[.int .i64 7, .int .i64 0, .slice none 0 0] 25)).alloc (.cells #[] 25)).heap.size = _; simp)
    have z1 : ((wr.alloc (.cells #[.int .i64 7, .int .i64 0, .slice none 0 0] 25)).alloc (.cells #[] 25)).drew.heap[wr.heap.size]? = some _ := ((below1 (wr.alloc (.cells #[.int .i64 7, .int .i64 0, .slice none 0 0] 25)) (.cells #[] 25)).block wr.heap.size (by simp)).trans z0
    have hS1' : (fun w' : World => Below wr.heap.size wr w' ∧ gV < w'.heap.size ∧ w'.cell? ⟨gV, 0, none⟩ = some (.int .i64 T.kind) ∧ w'.cell? ⟨gV, 1, none⟩ = some (.int .i64 T.num) ∧ w'.cell? ⟨gV, 2, none⟩ = some (.slice aV T.kids.length cV)) _ := HOLD.out _ (below2 wr (.cells #[.int .i64 7, .int .i64 0, .slice none 0 0] 25) (.cells #[] 25)).drew
    refine hK.out _ _ (ph_one (by kernel_rfl) hS1') ?_
    clear hK K hS1
    have hS1 := hS1'
    clear hS1'
    try simp only [Act.put, List.setIfInBounds_toArray, List.set_cons_zero, List.set_cons_succ]
    obtain ⟨va1, vc1, W1, h8, r8, b8, g8, f8⟩ := HA1.out _ _ hS1.1 e1
    refine AnyTwo.step (i := 7) (o := ⟨some 46, _, _, _, _, _⟩) (by kernel_rfl) rfl (fun K hK => ?_)
    rw [if_pos (by kernel_rfl)]
    refine Go.Lib.wp_append_run _ _ _ _ _ rfl _ _ rfl rfl _ _ h8 ?_
    have hS1' : (fun w' : World => Below wr.heap.size wr w' ∧ gV < w'.heap.size ∧ w'.cell? ⟨gV, 0, none⟩ = some (.int .i64 T.kind) ∧ w'.cell? ⟨gV, 1, none⟩ = some (.int .i64 T.num) ∧ w'.cell? ⟨gV, 2, none⟩ = some (.slice aV T.kids.length cV)) _ := HOLD.out _ b8
    refine hK.out _ _ (ph_one (by kernel_rfl) hS1') ?_
    clear hK K hS1
    have hS1 := hS1'
    clear hS1'
    try simp only [Act.put, List.setIfInBounds_toArray, List.set_cons_zero, List.set_cons_succ]
    have z8 := (g8.block wr.heap.size (block_of_cells z1).1 (by simp)).trans z1
    have n10 : (Value.slice va1 T.kids.length vc1).ownBlock ≠ some wr.heap.size := fun e => by rcases f8 with f8 | f8 <;> (rw [f8] at e; injection e with e; omega)
    obtain ⟨vb, vd, W2, h11, x11, b11⟩ := HA2.out _ _ _ _ hS1.1 r8 z8 (Nat.le_refl _) n10
    refine AnyTwo.step (i := 10) (o := ⟨some 49, _, _, _, _, _⟩) (by kernel_rfl) rfl (fun K hK => ?_)
    rw [if_pos (by kernel_rfl)]
    refine Go.Lib.wp_append_run _ _ _ _ _ rfl _ _ rfl rfl _ _ h11 ?_
    have hS1' : (fun w' : World => Below wr.heap.size wr w' ∧ gV < w'.heap.size ∧ w'.cell? ⟨gV, 0, none⟩ = some (.int .i64 T.kind) ∧ w'.cell? ⟨gV, 1, none⟩ = some (.int .i64 T.num) ∧ w'.cell? ⟨gV, 2, none⟩ = some (.slice aV T.kids.length cV)) _ := HOLD.out _ b11
    refine hK.out _ _ (ph_one (by kernel_rfl) hS1') ?_
    clear hK K hS1
    have hS1 := hS1'
    clear hS1'
    try simp only [Act.put, List.setIfInBounds_toArray, List.set_cons_zero, List.set_cons_succ]
    refine AnyTwo.take (i := 11) (oi := ⟨some 50, _, _, _, _, _⟩) (v := ?vs11) rfl (by kernel_rfl) (by kernel_rfl) (by decide +kernel) (by kernel_rfl) (by rfl) (by kernel_rfl) (fun _ _ _ h => h) (Or.inl ⟨by rfl, ?ys11⟩) hS1 ?rs11
    case ys11 => (intro w hSw; (try dsimp only at hSw); go_simp; try (with_reducible rfl))
    try simp only [Act.put, List.setIfInBounds_toArray, List.set_cons_zero, List.set_cons_succ]
    refine AnyTwo.step (i := 12) (o := ⟨some 51, _, _, _, _, _⟩) (by kernel_rfl) rfl (fun K hK => ?_)
    go_simp
    refine (HVX.out _ _ x11).mono ?_
    rintro e W3 ⟨rfl, hb3⟩
    have hS1' : (fun w' : World => Below wr.heap.size wr w' ∧ gV < w'.heap.size ∧ w'.cell? ⟨gV, 0, none⟩ = some (.int .i64 T.kind) ∧ w'.cell? ⟨gV, 1, none⟩ = some (.int .i64 T.num) ∧ w'.cell? ⟨gV, 2, none⟩ = some (.slice aV T.kids.length cV)) _ := HOLD.out _ (bAfter b11 hb3)
    refine hK.out _ _ (ph_one (by kernel_rfl) hS1') ?_
    clear hK K hS1
    have hS1 := hS1'
    clear hS1'
    try simp only [Act.put, List.setIfInBounds_toArray, List.set_cons_zero, List.set_cons_succ]
    refine AnyTwo.take (i := 13) (oi := ⟨some 52, _, _, _, _, _⟩) (v := ?vs13) rfl (by kernel_rfl) (by kernel_rfl) (by decide +kernel) (by kernel_rfl) (by rfl) (by kernel_rfl) (fun _ _ _ h => h) (Or.inl ⟨by rfl, ?ys13⟩) hS1 ?rs13
    case ys13 => (intro w hSw; (try dsimp only at hSw); go_simp; try (with_reducible rfl))
    try simp only [Act.put, List.setIfInBounds_toArray, List.set_cons_zero, List.set_cons_succ]
    refine AnyTwo.step (i := 14) (o := ⟨some 2, _, _, _, _, _⟩) (by kernel_rfl) rfl (fun K hK => ?_)
    go_simp
    refine hK.out _ _ (ph_end (by kernel_rfl) trivial) ?_
    clear hK K
    try simp only [Act.put, List.setIfInBounds_toArray, List.set_cons_zero, List.set_cons_succ]
    refine AnyTwo.done (by kernel_rfl) ?_ _
    go_wp2_with fail
    first | (go_ret; exact ⟨rfl, bAfter HBR.out hS1.1⟩) | exact ⟨rfl, bAfter HBR.out hS1.1⟩
  have hlti : ((q : Int) < (T.kids.length : Int)) := by omega
  obtain ⟨x1, x2, b1, o1, e1, hl1, hp1, hc1⟩ := VR.out.sl.open
  injection e1 with e11 e12 e13
  subst e11 e13
  obtain ⟨rfl, -, hbw1⟩ := hp1 (by intro e; rw [e] at hlt; simp at hlt)
  obtain ⟨s, k0, k1, k2, hs⟩ := hc1 q hlt
  have HS := tuck hs
  have hlm : T.kids.length ≤ 9223372036854775807 := by unfold maxLen at hl1; omega
  clear hs hc1 hp1 e12 hl1
  have HTQ := tuck (HK.out q hlt)
  generalize T.kids[q] = xk at *
  clear HK
  go_wp2_with fail
  refine (HTQ.out _ _ ⟨s, rfl, HS.out⟩).mono ?_
  rintro e w' ⟨rfl, hb'⟩
  have HB' := tuck hb'
  clear hb'
  go_wp2_with fail
  go_roundw
  case rel => exact ⟨q + 1, by omega, by go_num, HBW.out.trans (HB'.out.mono HBW.out.size)⟩
  case measure => simp [intOf]; omega
set_option maxRecDepth 100000 in
theorem lifted (os : Os) (started : os.Started) (H : Type) (enc : TypeId × Value → H) :
  ReturnsInHanded {} Try.checked os 3 .any (Rows.fnTermPartsSpec.pre6 enc Try.prog Try.f3 Rows.fnTermPartsRow.domain false) (Rows.fnTermPartsSpec.post enc Try.prog Try.f3 false true false false) := by
 refine returnsInHanded_of_change (C := Try.checked) own started (by kernel_rfl) Try.func3
  (ChangeSpec.witness6 (enc := enc) (C := Try.checked) false ⟨#[], #[.slice none 0 0], []⟩ 8 (by kernel_rfl) (by kernel_rfl) (by kernel_rfl) (by kernel_rfl)) ?_
 intro W base args ds gs before hval0 hW hcnd _
 have hval : ∀ (j : Nat) t v, Try.f3.params[j]? = some t → args[j]? = some v → Value.okWide Try.prog W .any base t v := hval0
 have hW' := hW
 obtain ⟨p, q, hA0, hV, rfl, hfz, hnd⟩ := hW
 have hA : DataW.TrodAll enc Try.prog W 0 (fun _ => true) true Try.f3.params.toList args.toList ds p := hA0
 rw [Try.params3] at hA hval
 obtain ⟨v0, vs0, d0, ds0, p0, q0, hargs, rfl, rfl, h0, r0⟩ := trodAll_cons hA
 obtain ⟨rfl, rfl, rfl⟩ := trodAll_nil r0
 obtain rfl : args = #[v0] := by cases args; simp_all
 obtain ⟨U0, ad0, bb0, oo0, len0, cap0, rfl, hlc0, hcm0, hbl0, hby0⟩ := open_bytes (hval 0 22 v0 rfl rfl) h0
 refine (walk U0 ad0 bb0 oo0 len0 cap0 W hlc0 hcm0 hby0).mono fun e W' ⟨he, hb⟩ => ?_
 subst he
 exact ⟨_, rfl, law_post rfl rfl (fun gs h => by subst h; rfl) (by rw [Try.params3]; exact readable_FnTermParts) laid hW' hb⟩
theorem over : Rows.fnTermPartsRow.holds Try.pinned (OpenSpec.ofChange Rows.fnTermPartsSpec) :=
 OpenClaim.holds_of_wide 3 Try.f3 rfl rfl rfl rfl rfl rfl rfl ⟨rfl, rfl, rfl, rfl, rfl⟩ rfl rfl rfl rfl rfl (by kernel_rfl) Try.func3 (by kernel_rfl)
  (of_decide_eq_true (by kernel_rfl)) (by unfold Func.isWrapper; first | (rw [if_pos (by decide +kernel)]; kernel_rfl) | (rw [if_neg (by decide +kernel)]; exact ⟨rfl, rfl⟩))
  (fun os started H enc _ => lifted os started H enc)
theorem proved : Rows.FnTermPartsSaid :=
 over
end Go.Proofs.Ytcnpenmhngplfaa.fnTermParts
