/-
  DevF.
-/
import Derived.Test.YtjdmfegdgpbkgaaGreatS21
import Derived.Test.YtjdmfegdgpbkgaaGreatS46
namespace Go.Proofs.YtjdmfegdgpbkgaaGreat
open Go.RowKit
def RowX (R : Nat) (pre : List Tm) (m : Nat) (X : Nat → Prop) (w : World) : Prop :=
 ∃ cs : Array Value, w.heap[R]? = some (.cells cs 25 (0, 0)) ∧ cs.size = m * 3 ∧ ∀ j (hj : j < pre.length), ∃ s, cs[j * 3]? = some (.int .i64 pre[j].kind) ∧ cs[j * 3 + 1]? = some (.int .i64 pre[j].num) ∧ cs[j * 3 + 2]? = some s ∧ SlX w X pre[j].kids s
theorem RowX.below {R m : Nat} {pre : List Tm} {X : Nat → Prop} {w w' : World} (h : RowX R pre m X w) (hb : Below w.heap.size w w') : RowX R pre m X w' := by
 obtain ⟨cs, h1, h2, h3⟩ := h
 refine ⟨cs, (hb.block R (block_of_cells h1).1).trans h1, h2, fun j hj => ?_⟩
 obtain ⟨s, c0, c1, c2, c3⟩ := h3 j hj
 exact ⟨s, c0, c1, c2, c3.below hb⟩
theorem RowX.room {R m q : Nat} {pre : List Tm} {X : Nat → Prop} {w : World} (h : RowX R pre m X w) (hq : q < m) : ∃ u0 u1 u2, w.cell? ⟨R, q * 3, none⟩ = some u0 ∧ w.cell? ⟨R, q * 3 + 1, none⟩ = some u1 ∧ w.cell? ⟨R, q * 3 + 2, none⟩ = some u2 ∧ (∀ i, w.frozen? ⟨R, i, none⟩ = false) ∧ R < w.heap.size := by
 obtain ⟨cs, h1, h2, -⟩ := h
 obtain ⟨b1, b2, b3⟩ := block_of_cells h1
 exact ⟨_, _, _, (b2 _).trans (Array.getElem?_eq_getElem (by omega)), (b2 _).trans (Array.getElem?_eq_getElem (by omega)), (b2 _).trans (Array.getElem?_eq_getElem (by omega)), b3, b1⟩
theorem RowX.put {R m q : Nat} {pre : List Tm} {X : Nat → Prop} {w : World} (h : RowX R pre m X w) (hq : pre.length = q) (hm : q < m) (hR : X R) {T : Tm} {s : Value} (hs : SlX w X T.kids s) :
  RowX R (pre ++ [T]) m X (((w.setCell ⟨R, q * 3, none⟩ (.int .i64 T.kind)).setCell ⟨R, q * 3 + 1, none⟩ (.int .i64 T.num)).setCell ⟨R, q * 3 + 2, none⟩ s) := by
 obtain ⟨cs, h1, h2, h3⟩ := h
 refine ⟨_, block_set (block_set (block_set h1 _ _) _ _) _ _, by simp [h2], fun j hj => ?_⟩
 rw [List.length_append, List.length_singleton] at hj
 by_cases e : j = q
 ·subst e
  have hg : (pre ++ [T])[j]'(by simp; omega) = T := by rw [List.getElem_append_right (by omega)]; simp [hq]
  rw [hg]
  refine ⟨s, ?_, ?_, ?_, hs.set3 hR _ _ _ _ _ _⟩
  ·simp [Array.getElem?_setIfInBounds, h2]; omega
  ·simp [Array.getElem?_setIfInBounds, h2]; omega
  ·simp [Array.getElem?_setIfInBounds, h2]; omega
 ·have hg : (pre ++ [T])[j]'(by simp; omega) = pre[j]'(by omega) := List.getElem_append_left (by omega)
  rw [hg]
  obtain ⟨s', c0, c1, c2, c3⟩ := h3 j (by omega)
  have e0 : q * 3 + 2 ≠ j * 3 := by omega
  have e1 : q * 3 + 1 ≠ j * 3 := by omega
  have e2 : q * 3 ≠ j * 3 := by omega
  have e3 : q * 3 + 2 ≠ j * 3 + 1 := by omega
  have e4 : q * 3 + 1 ≠ j * 3 + 1 := by omega
  have e5 : q * 3 ≠ j * 3 + 1 := by omega
  have e6 : q * 3 + 2 ≠ j * 3 + 2 := by omega
  have e7 : q * 3 + 1 ≠ j * 3 + 2 := by omega
  have e8 : q * 3 ≠ j * 3 + 2 := by omega
  refine ⟨s', ?_, ?_, ?_, c3.set3 hR _ _ _ _ _ _⟩
  ·rw [Array.getElem?_setIfInBounds_ne e0, Array.getElem?_setIfInBounds_ne e1, Array.getElem?_setIfInBounds_ne e2]; exact c0
  ·rw [Array.getElem?_setIfInBounds_ne e3, Array.getElem?_setIfInBounds_ne e4, Array.getElem?_setIfInBounds_ne e5]; exact c1
  ·rw [Array.getElem?_setIfInBounds_ne e6, Array.getElem?_setIfInBounds_ne e7, Array.getElem?_setIfInBounds_ne e8]; exact c2
theorem RowX.done {R m cap : Nat} {pre : List Tm} {X Y : Nat → Prop} {w : World} (h : RowX R pre m X w) (hl : pre.length ≤ maxLen) (hY : ∀ i, Y i → X i) (hR : ¬ Y R) : SlX w Y pre (.slice (some ⟨R, 0, none⟩) pre.length cap) := by
 obtain ⟨cs, h1, h2, h3⟩ := h
 obtain ⟨b1, b2, b3⟩ := block_of_cells h1
 refine SlX.mk hl hR fun i hi => ?_
 obtain ⟨s, c0, c1, c2, c3⟩ := h3 i hi
 rw [Nat.zero_add]
 exact ⟨s, (b2 _).trans c0, (b2 _).trans c1, (b2 _).trans c2, c3.narrow hY⟩
def FoldPost (X : Nat → Prop) (w : World) (r : Option Tm) (e : Ending) (w' : World) : Prop :=
 Below w.heap.size w w' ∧ ∃ (U : Tm) (s : Value), e = .returned (.tuple #[.agg #[.int .i64 U.kind, .int .i64 U.num, s], .bool r.isSome]) ∧ SlX w' X U.kids s ∧ (∀ T, r = some T → U = T)
set_option maxRecDepth 100000 in
set_option maxHeartbeats 1600000 in
theorem fold_any : ∀ (l : List Tm) (k n : Int) (w : World) (X : Nat → Prop) (v : Value), (Tm.mk k n l).Valid → (∀ i, X i → i < w.heap.size) → SlX w X l v →
  Calls Tryz.prog 15 #[.agg #[.int .i64 k, .int .i64 n, v], .func (.func 16) #[] #[]] w (FoldPost X w (Tm.mk k n l).devo) := by
 intro l
 induction l using Tm.ind with
 | h l ih =>
 intro k n w X v hv hX hin
 obtain ⟨a, cap, bb, o, rfl, hlm, hp, hc⟩ := hin.open
 have hroot : (Tm.mk k n l).rootOk := hv.root
 have hvk : ∀ i (hi : i < l.length), l[i].Valid := fun i hi => hv.get (t := .mk k n l) hi
 have hl4 : l.length ≤ 4 := root_len hroot
 obtain ⟨res, hres⟩ : ∃ res, res = (Tm.mk k n l).devo := ⟨_, rfl⟩
 have hdev : res = (devL l).bind fun l' => @ite _ (devC (.mk k n l) l').Valid (Classical.propDecidable _) (some (devC (.mk k n l) l')) none := by rw [hres, Tm.devo]
 rw [← hres]
 have HNONE : Hid (devL l = none → ∀ w', Below w.heap.size w w' → FoldPost X w res (.returned (.tuple #[.agg #[.int .i64 0, .int .i64 0, .slice none 0 0], .bool false])) w') := tuck fun h w' hb => by
  rw [h] at hdev
  rw [hdev]
  exact ⟨hb, zeroT, .slice none 0 0, rfl, SlX.nil _ _ _ _, fun T h => by cases h⟩
 have HSOME : Hid (∀ l', devL l = some l' → ∀ (U : Tm) (ua : Option Addr) (uc : Nat) w', Below w.heap.size w w' → SlX w' X U.kids (.slice ua U.kids.length uc) → ((devC (.mk k n l) l').Valid → U = devC (.mk k n l) l') → FoldPost X w res (.returned (.tuple #[.agg #[.int .i64 U.kind, .int .i64 U.num, .slice ua U.kids.length uc], .bool (tr (devC (.mk k n l) l').Valid)])) w') := tuck fun l' h U ua uc w' hb hs hU => by
  rw [h, Option.bind_some] at hdev
  by_cases hvv : (devC (.mk k n l) l').Valid
  ·rw [if_pos hvv] at hdev
   rw [hdev, tr_of hvv]
   exact ⟨hb, U, _, rfl, hs, fun T h => by cases h; exact hU hvv⟩
  ·rw [if_neg hvv] at hdev
   rw [hdev, tr_not hvv]
   exact ⟨hb, U, _, rfl, hs, fun T h => by cases h⟩
 have HNODE : Hid (∀ l', devL l = some l' → ∀ w' (X' : Nat → Prop), Below w.heap.size w w' → (∀ i, X' i → i < w'.heap.size) → ∀ v', SlX w' X' l' v' → Calls Tryz.prog 16 #[.agg #[.int .i64 k, .int .i64 n, .slice a l.length cap], v'] w' (ContrPost X' w' (devC (.mk k n l) l').Valid (devC (.mk k n l) l'))) := tuck fun l' h w' X' hb hX' v' hv' => by
  have hlen := devL_length h
  exact devNode_any (.mk k n l) hroot l' hlen (fun i hi => devo_valid (devL_get h i (by omega) hi)) (fun h0 => dev_redex (t := .mk k n l) hroot h h0) w' X' hX' _ _ ((hin.below hb).sl) hv'
 have HI := tuck ih
 have HP := tuck hp
 have HC := tuck hc
 have HVK := tuck hvk
 have HX := tuck hX
 have hcf : ∀ (args : Array Value) (w : World), (callFunc 16 args).run Tryz.prog w = .ok (.enter 16 args) w := fun _ _ => by kernel_rfl
 generalize FoldPost X w res = post at *
 clear hin hp hc ih hvk hX hv hdev hres hroot
 obtain ⟨i0, hi, hz0, hz1', hz2⟩ := info_parts info_term'
 have hmk : ∀ W : World, (Instr.makeSlice 23 (.int .i64 (l.length : Int)) (.int .i64 (l.length : Int))).run Tryz.prog W = .ok (.slice (some ⟨W.heap.size, 0, none⟩) l.length l.length) (W.alloc (.cells (madeCells #[.int .i64 0, .int .i64 0, .slice none 0 0] (l.length * 3)) 25)) := fun W => by
  have h := run_make (P := Tryz.prog) W 23 25 i0 _ Tryz.underlying23 hi hz0 .i64 .i64 (l.length : Int) (l.length : Int) (by omega) (Int.le_refl _) (by rw [hz2]; omega) (by omega)
  rw [hz1'] at h
  simpa [Value.cells] using h
 clear hi hz0 hz1' hz2
 go_enter Tryz.func15, Tryz.ntmps15
 go_wp2_with fail
 have HB0 := tuck ((below2 w (.cells #[.int .i64 k, .int .i64 n, .slice a l.length cap] 25) (.cells #[.int .i64 0, .int .i64 0, .slice none 0 0] 25)).alloc (by simp; omega) (.cells (madeCells #[.int .i64 0, .int .i64 0, .slice none 0 0] (l.length * 3)) 25))
 have HV0 := tuck (((VarAt.new w k n (.slice a l.length cap)).below (below1 _ (.cells #[.int .i64 0, .int .i64 0, .slice none 0 0] 25))).below (below1 _ (.cells (madeCells #[.int .i64 0, .int .i64 0, .slice none 0 0] (l.length * 3)) 25)))
 have HV1 := tuck ((var_new1 w (.cells #[.int .i64 k, .int .i64 n, .slice a l.length cap] 25) 0 0 (.slice none 0 0)).below (below1 _ (.cells (madeCells #[.int .i64 0, .int .i64 0, .slice none 0 0] (l.length * 3)) 25)))
 have HR0 : Hid (RowX (w.heap.size + 1 + 1) [] l.length (With X w (w.heap.size + 3)) (((w.alloc (.cells #[.int .i64 k, .int .i64 n, .slice a l.length cap] 25)).alloc (.cells #[.int .i64 0, .int .i64 0, .slice none 0 0] 25)).alloc (.cells (madeCells #[.int .i64 0, .int .i64 0, .slice none 0 0] (l.length * 3)) 25))) := tuck (by
  have := heap_new ((w.alloc (.cells #[.int .i64 k, .int .i64 n, .slice a l.length cap] 25)).alloc (.cells #[.int .i64 0, .int .i64 0, .slice none 0 0] 25)) (.cells (madeCells #[.int .i64 0, .int .i64 0, .slice none 0 0] (l.length * 3)) 25)
  rw [show ((w.alloc (.cells #[.int .i64 k, .int .i64 n, .slice a l.length cap] 25)).alloc (.cells #[.int .i64 0, .int .i64 0, .slice none 0 0] 25)).heap.size = w.heap.size + 1 + 1 by simp] at this
  exact ⟨_, this, size_madeCells _ _, fun j hj => by simp at hj⟩)
 generalize ((w.alloc (.cells #[.int .i64 k, .int .i64 n, .slice a l.length cap] 25)).alloc (.cells #[.int .i64 0, .int .i64 0, .slice none 0 0] 25)).alloc (.cells (madeCells #[.int .i64 0, .int .i64 0, .slice none 0 0] (l.length * 3)) 25) = W0 at *
 clear hmk
 go_loopw [18] (fun i wr => ∃ (q : Nat) (pre : List Tm), q ≤ l.length ∧ pre.length = q ∧ i = .int .i64 q ∧ Below w.heap.size w wr ∧ VarAt w.heap.size k n (.slice a l.length cap) wr ∧ VarAt (w.heap.size + 1) 0 0 (.slice none 0 0) wr ∧ RowX (w.heap.size + 1 + 1) pre l.length (With X w (w.heap.size + 3)) wr ∧ devL l = (devL (l.drop q)).map (pre ++ ·)) (fun i _ => l.length - (intOf i).toNat)
 case atStart => exact ⟨0, [], Nat.zero_le _, rfl, rfl, HB0.out, HV0.out, HV1.out, HR0.out, by simp⟩
 case round =>
  obtain ⟨q, pre, hq, hpre, rfl, hb, hv0, hv1, hrow, hdl⟩ := hrel
  have HB := tuck hb
  have HV := tuck hv0
  have HZ := tuck hv1
  have HROW := tuck hrow
  have HDL := tuck hdl
  have HPRE := tuck hpre
  clear hb hv0 hv1 hrow hdl hpre HB0 HV0 HV1 HR0
  by_cases hlt : q < l.length
  ·have hlti : ((q : Int) < (l.length : Int)) := by omega
   have hqi : (0 : Int) ≤ (q : Int) := by omega
   obtain ⟨rfl, -, hbw⟩ := HP.out (by intro e; rw [e] at hlt; simp at hlt)
   obtain ⟨s, c0, c1, c2, hs⟩ := HC.out q hlt
   obtain ⟨sa, sc, rfl⟩ := hs.form
   replace c0 := (HB.out.cell (p := ⟨bb, o + q * 3, none⟩) hbw).trans c0
   replace c1 := (HB.out.cell (p := ⟨bb, o + q * 3 + 1, none⟩) hbw).trans c1
   replace c2 := (HB.out.cell (p := ⟨bb, o + q * 3 + 2, none⟩) hbw).trans c2
   have hzr : w.heap.size + 3 ≤ wr.heap.size := by have := (HROW.out.room hlt).choose_spec.choose_spec.choose_spec.2.2.2.2; omega
   have HCALL : Hid (∀ w1, Below wr.heap.size wr w1 → Calls Tryz.prog 15 #[.agg #[.int .i64 l[q].kind, .int .i64 l[q].num, .slice sa l[q].kids.length sc], .func (.func 16) #[] #[]] w1 (FoldPost (With X w (w.heap.size + 3)) w1 l[q].devo)) := tuck fun w1 h1 => by
    have := HI.out q hlt l[q].kind l[q].num w1 (With X w (w.heap.size + 3)) _ (by rw [Tm.eta]; exact HVK.out q hlt) (fun i hi => by
     have hz := h1.size
     rcases hi with hi | hi
     ·have := HX.out i hi; omega
     ·omega) (hs.widen (bAfter HB.out h1) _)
    rwa [Tm.eta] at this
   have hdr := devL_drop hlt
   have HD := tuck hdr
   clear hs HI hdr
   generalize l[q] = y at *
   have hbk := below1 wr (.cells #[.int .i64 y.kind, .int .i64 y.num, .slice sa y.kids.length sc] 25)
   have HCK := tuck (HCALL.out _ hbk)
   have HBK := tuck (bAfter HB.out hbk)
   have HVK' := tuck (HV.out.below hbk)
   have HZK := tuck (HZ.out.below hbk)
   have HROWK := tuck (HROW.out.below hbk)
   clear hbk
   go_wp2_with fail
   generalize wr.alloc (.cells #[.int .i64 y.kind, .int .i64 y.num, .slice sa y.kids.length sc] 25) = WK at *
   refine HCK.out.mono ?_
   rintro e w3 ⟨hb3, U, s3, rfl, hs3, hU⟩
   obtain ⟨ua, uc, rfl⟩ := hs3.form
   obtain ⟨zr, r0, r1, r2, rf⟩ := (HZK.out.below hb3).facts
   have HB3 := tuck (bAfter HBK.out hb3)
   have HV3 := tuck (HVK'.out.below hb3)
   have HZ3 := tuck (HZK.out.below hb3)
   have HROW3 := tuck (HROWK.out.below hb3)
   have HS3 := tuck hs3
   clear hb3 hs3 c0 c1 c2 HCALL HCK
   cases hy : y.devo with
   | none =>
    have HN := tuck (HNONE.out (by rw [HDL.out, HD.out, hy]; rfl))
    simp only [Option.isSome_none]
    clear hU hy HSOME HNODE HNONE
    go_wp2_with fail
    refine bodyPost_ret (v := .tuple #[.agg #[.int .i64 0, .int .i64 0, .slice none 0 0], .bool false]) (by simp [results, Tryz.results15, go_sem, *]) rfl (HN.out _ ?_)
    exact bAfter (bSet3 HB3.out (Nat.le_succ _) _ _ _ _ _ _) (below1 _ _)
   | some T =>
    obtain rfl := hU T hy
    have HD2 : Hid (devL l = (devL (l.drop (q + 1))).map ((pre ++ [U]) ++ ·)) := tuck (by
     rw [HDL.out, HD.out, hy, Option.bind_some, Option.map_map]
     congr 1
     funext m
     simp)
    simp only [Option.isSome_some]
    clear hU hy HNONE
    obtain ⟨u0, u1, u2, t0, t1, t2, tf, tz⟩ := HROW3.out.room hlt
    have hne0 : w.heap.size ≠ w.heap.size + 1 + 1 := by omega
    have hne1 : w.heap.size + 1 ≠ w.heap.size + 1 + 1 := by omega
    go_wp2_with fail
    go_roundw
    case rel =>
     have hrow3 := HROW3.out.put HPRE.out hlt (Or.inr ⟨by omega, by omega⟩) HS3.out
     refine ⟨q + 1, pre ++ [U], by omega, by rw [List.length_append, HPRE.out]; rfl, by go_num, ?_, ?_, ?_, hrow3.below (below1 _ _), HD2.out⟩
     ·exact bAfter (bSet3 HB3.out (by omega) _ _ _ _ _ _) (below1 _ _)
     ·exact (HV3.out.far3 hne0 _ _ _ _ _ _).below (below1 _ _)
     ·exact (HZ3.out.far3 hne1 _ _ _ _ _ _).below (below1 _ _)
    case measure => simp [intOf]; omega
  ·have hge2 : ¬ ((q : Int) < (l.length : Int)) := by omega
   have e : q = l.length := by omega
   subst e
   have hdl : devL l = some pre := by rw [HDL.out, List.drop_length, devL]; simp
   have hlen := HPRE.out
   have hsl : SlX wr (With X w (w.heap.size + 2)) pre (.slice (some ⟨w.heap.size + 1 + 1, 0, none⟩) l.length l.length) := by
    have := HROW.out.done (cap := l.length) (Y := With X w (w.heap.size + 2)) (by rw [hlen]; unfold maxLen; omega) (fun i hi => by
     rcases hi with hi | hi
     ·exact Or.inl hi
     ·exact Or.inr ⟨hi.1, by omega⟩) (fun hi => by
     rcases hi with hi | hi
     ·have := HX.out _ hi; omega
     ·omega)
    rwa [hlen] at this
   obtain ⟨z0, a0, a1, a2, -⟩ := HV.out.facts
   have hzw : w.heap.size + 2 ≤ wr.heap.size := by have := HZ.out.facts.1; omega
   have HCALL := tuck (HNODE.out pre hdl wr (With X w (w.heap.size + 2)) HB.out (fun i hi => by
    rcases hi with hi | hi
    ·have := HX.out i hi; omega
    ·omega) _ hsl)
   have HS := tuck (HSOME.out pre hdl)
   clear hdl hsl HSOME HNONE HNODE
   generalize (devC (.mk k n l) pre).Valid = V at *
   generalize devC (.mk k n l) pre = C at *
   go_wp2_with fail
   refine HCALL.out.mono ?_
   rintro e w3 hp3
   obtain ⟨U, ua, uc, rfl, hb3, hs3, hU⟩ := hp3.open
   obtain ⟨zr, r0, r1, r2, rf⟩ := (HZ.out.below hb3).facts
   have HB3 := tuck (bAfter HB.out hb3)
   have HS3 := tuck hs3
   have HU := tuck hU
   clear hp3 hb3 hs3 hU HCALL a0 a1 a2
   go_wp2_with fail
   refine bodyPost_ret (v := .tuple #[.agg #[.int .i64 U.kind, .int .i64 U.num, .slice ua U.kids.length uc], .bool (tr V)]) (by simp [results, Tryz.results15, go_sem, *]) rfl (HS.out U ua uc _ ?_ ?_ HU.out)
   ·exact bSet3 HB3.out (Nat.le_succ _) _ _ _ _ _ _
   ·exact (HS3.out.set3 (Or.inr ⟨Nat.le_succ _, by omega⟩) _ _ _ _ _ _).narrow fun i h => Or.inl h
end Go.Proofs.YtjdmfegdgpbkgaaGreat
