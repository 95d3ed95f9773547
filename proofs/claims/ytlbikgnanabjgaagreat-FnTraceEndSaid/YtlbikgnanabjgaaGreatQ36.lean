/-
  StepJ.
-/
import Derived.Test.YtlbikgnanabjgaaGreatQ21
import Derived.Test.YtlbikgnanabjgaaGreatQ32
import Derived.Test.YtlbikgnanabjgaaGreatQ35
namespace Go.Proofs.YtlbikgnanabjgaaGreat
open Go.RowKit
theorem PassX.widen {w W : World} {X : Nat → Prop} (hb : Below w.heap.size w W) (n : Nat) : ∀ {p : List (Tm × Nat)} {qs : List (Tm × Value × Nat)}, PassX w X p qs → PassX W (With X w n) p qs
 | [], [], _ => trivial
 | (t, i) :: p, (t', s, i') :: q, h => ⟨h.1, h.2.1, h.2.2.1, h.2.2.2.1, h.2.2.2.2.1.widen hb n, PassX.widen hb n h.2.2.2.2.2⟩
 | [], _ :: _, h => by cases h
 | _ :: _, [], h => by cases h
set_option maxRecDepth 100000 in
set_option maxHeartbeats 1600000 in
theorem scontract_any (w : World) (X : Nat → Prop) (hX : ∀ i, X i → i < w.heap.size) (p : List (Tm × Nat)) (hip : InPath p) (qs : List (Tm × Value × Nat)) (hp : PassX w X p qs) (hq : qs.length ≤ 1000) (sa : Option Addr) (gb cap : Nat) (hgb : qs ≠ [] → sa = some ⟨gb, 0, none⟩ ∧ gb < w.heap.size)
  (hc : ∀ j u, (stkCells qs)[j]? = some u → w.cell? ⟨gb, j, none⟩ = some u) (t : Tm) (hr : t.rootOk) (hk : ∀ i (hi : i < t.kids.length), t.kids[i].Valid) (h0 : t.redex ≠ 0) (s : Value) (hs : SlX w X t.kids s) :
  Calls Tryz.prog 37 #[.slice sa qs.length cap, .agg #[.int .i64 t.kind, .int .i64 t.num, s]] w (ContrPost X w (around p t.contr).Valid (around p t.contr)) := by
 obtain ⟨a, c, rfl⟩ := hs.form
 have hb2 := below2 w (.cells #[.int .i64 t.kind, .int .i64 t.num, .slice a t.kids.length c] 25) (.cells #[.int .i64 0, .int .i64 0, .slice none 0 0] 25)
 have HV0 := tuck ((VarAt.new w t.kind t.num (.slice a t.kids.length c)).below (below1 _ (.cells #[.int .i64 0, .int .i64 0, .slice none 0 0] 25)))
 have HV1 := tuck (var_new1 w (.cells #[.int .i64 t.kind, .int .i64 t.num, .slice a t.kids.length c] 25) 0 0 (.slice none 0 0))
 have HCON := tuck (contract_any t hr hk _ (With X w (w.heap.size + 2)) (fun i hi => by
  rcases hi with hi | hi
  ·have := hX i hi; simp; omega
  ·simp; omega) _ (hs.widen hb2 (w.heap.size + 2)))
 rw [show (t.redex ≠ 0 ∧ t.contr.Valid) = t.contr.Valid from propext ⟨fun h => h.2, fun h => ⟨h0, h⟩⟩] at HCON
 have HB2 := tuck hb2
 have HSZ : Hid (∀ W, Below ((w.alloc (.cells #[.int .i64 t.kind, .int .i64 t.num, .slice a t.kids.length c] 25)).alloc (.cells #[.int .i64 0, .int .i64 0, .slice none 0 0] 25)).heap.size ((w.alloc (.cells #[.int .i64 t.kind, .int .i64 t.num, .slice a t.kids.length c] 25)).alloc (.cells #[.int .i64 0, .int .i64 0, .slice none 0 0] 25)) W → w.heap.size + 2 ≤ W.heap.size) := tuck fun W h => by have := h.size; simp at this; omega
 have HPOST : Hid (∀ (c0 : Bool) (U : Tm) (a' : Option Addr) (c' : Nat) w', Below w.heap.size w w' → c0 = tr (around p t.contr).Valid → SlX w' X U.kids (.slice a' U.kids.length c') → ((around p t.contr).Valid → U = around p t.contr) → ContrPost X w (around p t.contr).Valid (around p t.contr) (.returned (.tuple #[.agg #[.int .i64 U.kind, .int .i64 U.num, .slice a' U.kids.length c'], .bool c0])) w') := tuck fun c0 U a' c' w' h1 h2 h3 h4 =>
  ⟨h1, U, _, by rw [h2], h3, h4⟩
 by_cases hv : t.contr.Valid
 ·have HAR : Hid (∀ W, Below w.heap.size w W → w.heap.size + 2 ≤ W.heap.size → ∀ s, SlX W (With X w (w.heap.size + 2)) t.contr.kids s → Calls Tryz.prog 59 #[.slice sa qs.length cap, .agg #[.int .i64 t.contr.kind, .int .i64 t.contr.num, s]] W (ArndPost (With X w (w.heap.size + 2)) W (around p t.contr))) := tuck fun W hb hz s hs => by
   exact around_any W (With X w (w.heap.size + 2)) (fun i hi => by
    rcases hi with hi | hi
    ·have := hX i hi; omega
    ·omega) p qs (hp.widen hb _) hq sa gb cap (fun hn => ⟨(hgb hn).1, Nat.lt_of_lt_of_le (hgb hn).2 hb.size⟩) (fun j u hu => (hb.cell (World.block_lt_of_cell? w _ (hc j u hu))).trans (hc j u hu)) t.contr s hs
  have HVAL : Hid (∀ (W : World) (s : Value), SlIn W 0 (around p t.contr).kids s → Calls Tryz.prog 10 #[.agg #[.int .i64 (around p t.contr).kind, .int .i64 (around p t.contr).num, s]] W (BoolPost W (tr (around p t.contr).Valid))) := tuck fun W s h => validI_any (around p t.contr) W _ ⟨_, rfl, h⟩
  generalize ContrPost X w (around p t.contr).Valid (around p t.contr) = post at *
  replace HPOST : Hid (∀ (a' : Option Addr) (c' : Nat) w', Below w.heap.size w w' → SlX w' X (around p t.contr).kids (.slice a' (around p t.contr).kids.length c') → post (.returned (.tuple #[.agg #[.int .i64 (around p t.contr).kind, .int .i64 (around p t.contr).num, .slice a' (around p t.contr).kids.length c'], .bool (tr (around p t.contr).Valid)])) w') := tuck fun a' c' w' h1 h3 => HPOST.out _ (around p t.contr) a' c' w' h1 rfl h3 (fun _ => rfl)
  clear hs hb2 hX hip hp hq hgb hc hr hk h0
  generalize around p t.contr = R at *
  generalize tr R.Valid = cc at *
  generalize t.contr = C at *
  go_enter Tryz.func37, Tryz.ntmps37
  go_wp2_with fail
  generalize (w.alloc (.cells #[.int .i64 t.kind, .int .i64 t.num, .slice a t.kids.length c] 25)).alloc (.cells #[.int .i64 0, .int .i64 0, .slice none 0 0] 25) = W0 at *
  refine HCON.out.mono ?_
  rintro e w3 hp3
  obtain ⟨U, ua, uc, rfl, hb3, hs3, hU⟩ := hp3.open
  obtain rfl := hU hv
  rw [tr_of hv]
  have hbx := below1 w3 (.cells #[.int .i64 U.kind, .int .i64 U.num, .slice ua U.kids.length uc] 25)
  have hb4 := bAfter hb3 hbx
  have HR4 := tuck (HV1.out.below hb4)
  have HB4 := tuck (bAfter HB2.out hb4)
  have HC4 := tuck (HAR.out _ HB4.out (HSZ.out _ hb4) _ (hs3.below hbx))
  clear hp3 hb3 hs3 hU hbx hb4 HAR HCON HSZ hv HV0 HV1
  go_wp2_with fail
  refine HC4.out.mono ?_
  rintro e w5 ⟨hb5, ta, tc, rfl, hs5⟩
  have hbx := below1 w5 (.cells #[.int .i64 R.kind, .int .i64 R.num, .slice ta R.kids.length tc] 25)
  have HVE := tuck (VarAt.new w5 R.kind R.num (.slice ta R.kids.length tc))
  have HRE := tuck ((HR4.out.below hb5).below hbx)
  have HBE := tuck (bAfter HB4.out (bAfter hb5 hbx))
  have HSE := tuck (hs5.below hbx)
  have hgn : w5.heap.size ≠ w.heap.size + 1 := by have := (HR4.out.below hb5).facts.1; omega
  have hgw : w.heap.size ≤ w5.heap.size := by have := (HR4.out.below hb5).facts.1; omega
  clear hb5 hs5 hbx HR4 HB4 HC4
  go_wp2_with fail
  generalize w5.alloc (.cells #[.int .i64 R.kind, .int .i64 R.num, .slice ta R.kids.length tc] 25) = WE at *
  generalize w5.heap.size = G at *
  have HQ0 : Hid ((fun w' : World => G < w'.heap.size ∧ w'.cell? ⟨G, 0, none⟩ = some (.int .i64 R.kind) ∧ w'.cell? ⟨G, 1, none⟩ = some (.int .i64 R.num) ∧ w'.cell? ⟨G, 2, none⟩ = some (.slice ta R.kids.length tc)) WE.drew) := tuck ⟨HVE.out.facts.1, HVE.out.facts.2.1, HVE.out.facts.2.2.1, HVE.out.facts.2.2.2.1⟩
  go_region_held3 (fun w' => G < w'.heap.size ∧ w'.cell? ⟨G, 0, none⟩ = some (.int .i64 R.kind) ∧ w'.cell? ⟨G, 1, none⟩ = some (.int .i64 R.num) ∧ w'.cell? ⟨G, 2, none⟩ = some (.slice ta R.kids.length tc)) (first | exact HQ0.out | exact HK2.out | exact HK3.out) ((go_at_call 10; refine (HVAL.out _ _ ((HSE.out.below (Below.refl _ _).drew).sl)).mono ?_; rintro e w2 ⟨rfl, hb2⟩; have HB2 := tuck (bAfter HBE.out (bAfter (Below.refl _ _).drew hb2)); have HS2 := tuck ((HSE.out.below (Below.refl _ _).drew).below hb2); have HQN2 := tuck ((HVE.out.below (Below.refl _ _).drew).below hb2); have HQN3 := tuck (HQN2.out.far3 hgn 0 1 2 (.int .i64 R.kind) (.int .i64 R.num) (.slice ta R.kids.length tc)); have HK2 : Hid ((fun w' : World => G < w'.heap.size ∧ w'.cell? ⟨G, 0, none⟩ = some (.int .i64 R.kind) ∧ w'.cell? ⟨G, 1, none⟩ = some (.int .i64 R.num) ∧ w'.cell? ⟨G, 2, none⟩ = some (.slice ta R.kids.length tc)) w2) := tuck ⟨HQN2.out.facts.1, HQN2.out.facts.2.1, HQN2.out.facts.2.2.1, HQN2.out.facts.2.2.2.1⟩; have HK3 := tuck (show (fun w' : World => G < w'.heap.size ∧ w'.cell? ⟨G, 0, none⟩ = some (.int .i64 R.kind) ∧ w'.cell? ⟨G, 1, none⟩ = some (.int .i64 R.num) ∧ w'.cell? ⟨G, 2, none⟩ = some (.slice ta R.kids.length tc)) _ from ⟨HQN3.out.facts.1, HQN3.out.facts.2.1, HQN3.out.facts.2.2.1, HQN3.out.facts.2.2.2.1⟩); obtain ⟨zr, r0, r1, r2, rf⟩ := ((HRE.out.below (Below.refl _ _).drew).below hb2).facts; clear hb2))
  all_goals (try go_wp2_with fail)
  all_goals
   refine bodyPost_ret (v := .tuple #[.agg #[.int .i64 R.kind, .int .i64 R.num, .slice ta R.kids.length tc], .bool cc]) (by simp [results, Tryz.results37, go_sem, *]) rfl (HPOST.out _ _ _ ?_ ?_)
   ·exact bSet3 HB2.out (Nat.le_succ _) _ _ _ _ _ _
   ·exact (HS2.out.set3 (Or.inr ⟨Nat.le_succ _, by omega⟩) _ _ _ _ _ _).narrow fun i h => Or.inl h
 ·have hnv : ¬ (around p t.contr).Valid := fun h => hv (around_valid p _ hip h)
  replace HPOST : Hid (∀ w', Below w.heap.size w w' → ContrPost X w (around p t.contr).Valid (around p t.contr) (.returned (.tuple #[.agg #[.int .i64 0, .int .i64 0, .slice none 0 0], .bool false])) w') := tuck fun w' h1 => HPOST.out false zeroT none 0 w' h1 (tr_not hnv).symm (SlX.nil _ _ _ _) (fun h => absurd h hnv)
  generalize ContrPost X w (around p t.contr).Valid (around p t.contr) = post at *
  clear hs hb2 hX hip hp hq hgb hc hr hk h0 hnv
  generalize t.contr = C at *
  go_enter Tryz.func37, Tryz.ntmps37
  go_wp2_with fail
  generalize (w.alloc (.cells #[.int .i64 t.kind, .int .i64 t.num, .slice a t.kids.length c] 25)).alloc (.cells #[.int .i64 0, .int .i64 0, .slice none 0 0] 25) = W0 at *
  refine HCON.out.mono ?_
  rintro e w3 hp3
  obtain ⟨U, ua, uc, rfl, hb3, hs3, -⟩ := hp3.open
  rw [tr_not hv]
  obtain ⟨zr, r0, r1, r2, rf⟩ := (HV1.out.below hb3).facts
  have hbk := below1 w3 (.cells #[.int .i64 U.kind, .int .i64 U.num, .slice ua U.kids.length uc] 25)
  obtain ⟨zr', r0', r1', r2', rf'⟩ := ((HV1.out.below hb3).below hbk).facts
  have HB3 := tuck (bAfter HB2.out hb3)
  clear hp3 hb3 hs3 hbk HCON
  go_wp2_with fail
  refine bodyPost_ret (v := .tuple #[.agg #[.int .i64 0, .int .i64 0, .slice none 0 0], .bool false]) (by simp [results, Tryz.results37, go_sem, *]) rfl (HPOST.out _ ?_)
  exact bAfter (bSet3 HB3.out (Nat.le_succ _) _ _ _ _ _ _) (below1 _ _)
end Go.Proofs.YtlbikgnanabjgaaGreat
namespace Go.Proofs.YtlbikgnanabjgaaGreat
open Go.RowKit
def CodePost (w : World) (c : Int) (T : Tm) (e : Ending) (w' : World) : Prop := Below w.heap.size w w' ∧ ∃ v, e = .returned (.tuple #[v, .int .i64 c]) ∧ Made w.heap.size T v w'
theorem CodePost.zero {w w' : World} {c : Int} (hb : Below w.heap.size w w') : CodePost w c zeroT (.returned (.tuple #[.agg #[.int .i64 0, .int .i64 0, .slice none 0 0], .int .i64 c])) w' :=
 ReplPost.no (P := False) (T := zeroT) (w := w) (w' := w') id hb |> fun h => by
  obtain ⟨hb, v, e, hm⟩ := h
  simp only [Ending.returned.injEq, Value.tuple.injEq, Array.mk.injEq, List.cons.injEq, and_true] at e
  obtain ⟨rfl, -⟩ := e
  exact ⟨hb, _, rfl, by unfold orZero at hm; rwa [if_neg id] at hm⟩
theorem CodePost.made {w w' : World} {c : Int} {T : Tm} {s : Value} {F : List Nat} (hb : Below w.heap.size w w') (hs : SlOwn w' T.kids s F) (hn : F.Nodup) (hF : ∀ g ∈ F, w.heap.size ≤ g ∧ g < w'.heap.size) :
  CodePost w c T (.returned (.tuple #[.agg #[.int .i64 T.kind, .int .i64 T.num, s], .int .i64 c])) w' := ⟨hb, _, rfl, s, F, rfl, hs, hn, hF⟩
theorem VarAt.stepK {g : Nat} {k n : Int} {s : Value} {w w' : World} {M M' : Nat → Prop} (h : VarAt g k n s w) (hs : Step M w w' M') (hn : ¬ M g) : VarAt g k n s w' := (hs.block g h.facts.1 hn).trans h
theorem Passed.toX {u w : World} {X : Nat → Prop} (hv : ∀ l v, SlIn u 0 l v → SlX w X l v) : ∀ {p : List (Tm × Nat)} {qs : List (Tm × Value × Nat)}, InPath p → (∀ y ∈ p, y.1.Valid) → Passed u p qs → PassX w X p qs
 | [], [], _, _, _ => trivial
 | (t, i) :: p, (t', s, i') :: q, hp, hy, h => ⟨h.1, h.2.1, hp.1, root_len (hy (t, i) (by simp)).root, hv _ _ h.2.2.1, Passed.toX hv hp.2 (fun y h => hy y (by simp [h])) h.2.2.2⟩
 | [], _ :: _, _, _, h => by cases h
 | _ :: _, [], _, _, h => by cases h
theorem StkAt.view {g o : Nat} {T : TypeId} {cs : Array Value} {qs : List (Tm × Value × Nat)} {M : Nat → Prop} {w : World} (h : StkAt g o T cs qs M w) : ∃ (sa : Option Addr) (gb cap : Nat), w.cell? ⟨g, o, none⟩ = some (.slice sa qs.length cap) ∧ (qs ≠ [] → sa = some ⟨gb, 0, none⟩ ∧ gb < w.heap.size) ∧
  ∀ j u, (stkCells qs)[j]? = some u → w.cell? ⟨gb, j, none⟩ = some u := by
 obtain ⟨h1, v, h2, ho, h3, rfl⟩ := h
 have hc := (stk_cells h2 ho).2.1
 have hrow := h3
 rcases h3.2 with ⟨e1, e2⟩ | ⟨gb, cap, cur, rfl, r1, r2, r3⟩
 ·have : qs = [] := List.length_eq_zero_iff.1 e2
  subst this
  subst e1
  exact ⟨none, 0, 0, hc, fun h => absurd rfl h, fun j u hu => by simp [stkCells] at hu⟩
 ·refine ⟨_, gb, cap, hc, fun _ => ⟨rfl, (block_of_cells r2).1⟩, fun j u hu => ?_⟩
  have := hrow.cells (g := gb) rfl j u hu
  have hadd : (⟨gb, 0, none⟩ : Addr).add j = ⟨gb, j, none⟩ := by unfold Addr.add; split <;> simp_all
  rwa [hadd] at this
theorem stepOut_no {rl mo : Bool} {t : Tm} (h : ¬ t.Valid) : stepOut rl mo t = (zeroT, 3) := if_neg h
theorem stepOut_none {rl mo : Bool} {t : Tm} (h : t.Valid) (hs : t.step rl mo = none) : stepOut rl mo t = (t, 0) := by unfold stepOut; rw [if_pos h, hs]
theorem stepOut_took {rl mo : Bool} {t t' : Tm} (h : t.Valid) (hs : t.step rl mo = some t') (hv : t'.Valid) : stepOut rl mo t = (t', 1) := by unfold stepOut; rw [if_pos h, hs]; exact if_pos hv
theorem stepOut_large {rl mo : Bool} {t t' : Tm} (h : t.Valid) (hs : t.step rl mo = some t') (hv : ¬ t'.Valid) : stepOut rl mo t = (zeroT, 2) := by unfold stepOut; rw [if_pos h, hs]; exact if_neg hv
set_option maxRecDepth 100000 in
set_option maxHeartbeats 1600000 in
theorem stepOnce_any (rl mo : Bool) (t : Tm) (w : World) (s : Value) (hs : SlIn w 0 t.kids s) :
  Calls Tryz.prog 21 #[.agg #[.int .i64 t.kind, .int .i64 t.num, s], .agg #[.bool rl, .bool mo]] w (CodePost w (stepOut rl mo t).2 (stepOut rl mo t).1) := by
 obtain ⟨a, c, rfl⟩ := hs.form
 have hb3 := below3 w (.cells #[.int .i64 t.kind, .int .i64 t.num, .slice a t.kids.length c] 25) (.cells #[.bool rl, .bool mo] 43) (.cells #[.int .i64 0, .int .i64 0, .slice none 0 0] 25)
 have HV0 := tuck (((VarAt.new w t.kind t.num (.slice a t.kids.length c)).below (below1 _ (.cells #[.bool rl, .bool mo] 43))).below (below1 _ (.cells #[.int .i64 0, .int .i64 0, .slice none 0 0] 25)))
 have HV2 := tuck (var_new2 w (.cells #[.int .i64 t.kind, .int .i64 t.num, .slice a t.kids.length c] 25) (.cells #[.bool rl, .bool mo] 43) 0 0 (.slice none 0 0))
 have HSB : Hid ((((w.alloc (.cells #[.int .i64 t.kind, .int .i64 t.num, .slice a t.kids.length c] 25)).alloc (.cells #[.bool rl, .bool mo] 43)).alloc (.cells #[.int .i64 0, .int .i64 0, .slice none 0 0] 25)).heap[w.heap.size + 1]? = some (.cells #[.bool rl, .bool mo] 43 (0, 0))) := tuck (by
  have h := heap_new (w.alloc (.cells #[.int .i64 t.kind, .int .i64 t.num, .slice a t.kids.length c] 25)) (.cells #[.bool rl, .bool mo] 43)
  rw [show (w.alloc (.cells #[.int .i64 t.kind, .int .i64 t.num, .slice a t.kids.length c] 25)).heap.size = w.heap.size + 1 by simp] at h
  exact ((below1 _ _).block (w.heap.size + 1) (by simp)).trans h)
 have HVAL := tuck (validI_any t _ _ ⟨_, rfl, hs.below hb3⟩)
 have HB3 := tuck hb3
 have HS := tuck hs
 by_cases hv : t.Valid
 ·rw [tr_of hv] at HVAL
  have HF : Hid (∀ (W : World) (M : Nat → Prop) (g : Nat), Below w.heap.size w W → w.heap.size ≤ g → StackAt g [] M W → Calls Tryz.prog 36 #[.agg #[.bool rl, .bool mo], .agg #[.int .i64 t.kind, .int .i64 t.num, .slice a t.kids.length c], .pointer (some ⟨g, 0, none⟩)] W (FindPost w g 0 54 #[.slice none 0 0] [] M W t (.slice a t.kids.length c) (t.find rl mo))) := tuck fun W M g h1 h2 h3 => by
   have := find_any (u := w) g 0 _ _ rl mo t.kids t.kind t.num W [] M (.slice a t.kids.length c) (View.of_below h1 fun i hi => Nat.le_trans h2 (h3.lt i hi).1) h3 (by rw [Tm.eta]; exact hv.1) (by have := hv.2.1; have := t.hgt_eq; simp; omega) HS.out
   rwa [Tm.eta] at this
  have hstep := t.find_step (rl := rl) (mo := mo)
  have hfok := t.find_ok (rl := rl) (mo := mo)
  have hszt := (valid_bounds hv).1
  cases hf : t.find rl mo with
  | none =>
   rw [hf] at HF hstep
   rw [stepOut_none hv hstep]
   dsimp only
   have HP : Hid (∀ w' s F, Below w.heap.size w w' → SlOwn w' t.kids s F → F.Nodup → (∀ g ∈ F, w.heap.size ≤ g ∧ g < w'.heap.size) → CodePost w 0 t (.returned (.tuple #[.agg #[.int .i64 t.kind, .int .i64 t.num, s], .int .i64 0])) w') := tuck fun w' s F h1 h2 h3 h4 => CodePost.made h1 h2 h3 h4
   have HCL : Hid (∀ W, Below w.heap.size w W → Calls Tryz.prog 15 #[.agg #[.int .i64 t.kind, .int .i64 t.num, .slice a t.kids.length c]] W (MadePost W t)) := tuck fun W h => by
    have := cloneI_any t.kids t.kind t.num W _ (by omega) (HS.out.below h)
    rwa [Tm.eta] at this
   generalize CodePost w 0 t = post at *
   clear hs hb3 hstep hfok hf hv HS hszt
   go_enter Tryz.func21, Tryz.ntmps21
   go_wp2_with fail
   refine HVAL.out.mono ?_
   rintro e w1 ⟨rfl, hb1⟩
   have hst := StackAt.new w1
   have hbs := below1 w1 (.cells #[.slice none 0 0] 54)
   have hz1 : w.heap.size + 3 ≤ w1.heap.size := by have := (HV2.out.below hb1).facts.1; omega
   have HB2 := tuck (bAfter (bAfter HB3.out hb1) hbs)
   have HVT := tuck ((HV0.out.below hb1).below hbs)
   have HVR := tuck ((HV2.out.below hb1).below hbs)
   have hsb := (bAfter hb1 hbs).block _ (block_of_cells HSB.out).1 |>.trans HSB.out
   obtain ⟨zs, db, -⟩ := block_of_cells hsb
   have b0 : (w1.alloc (.cells #[.slice none 0 0] 54)).cell? ⟨w.heap.size + 1, 0, none⟩ = some (.bool rl) := db 0
   have b1 : (w1.alloc (.cells #[.slice none 0 0] 54)).cell? ⟨w.heap.size + 1, 1, none⟩ = some (.bool mo) := db 1
   obtain ⟨z0, a0, a1, a2, -⟩ := HVT.out.facts
   have HST := tuck hst
   clear hb1 hst hbs hsb db HVAL HB3 HV0 HV2 HSB
   go_wp2_with fail
   generalize w1.alloc (.cells #[.slice none 0 0] 54) = W2 at *
   generalize w1.heap.size = g at *
   refine (HF.out _ _ g HB2.out (by omega) HST.out).mono ?_
   rintro e w4 ⟨M', hstp, rfl, -⟩
   have hM : ∀ i, (i = g ∨ (Value.slice none 0 0).ownBlock = some i) → w.heap.size + 3 ≤ i := fun i hi => Nat.le_trans hz1 (HST.out.lt i hi).1
   have hB4 := hstp.below HB2.out (by have := HVR.out.facts.1; omega) (fun i hi => by have := hM i hi; omega)
   have hbx := below1 w4 (.cells #[.int .i64 t.kind, .int .i64 t.num, .slice a t.kids.length c] 25)
   have HB5 := tuck (bAfter hB4 hbx)
   have HVT5 := tuck ((HVT.out.stepK hstp (fun h => by have := hM _ h; omega)).below hbx)
   have HVR5 := tuck ((HVR.out.stepK hstp (fun h => by have := hM _ h; omega)).below hbx)
   obtain ⟨z0', a0', a1', a2', -⟩ := HVT5.out.facts
   clear hstp hM hB4 hbx HST HF b0 b1 zs z0 a0 a1 a2
   go_wp2_with fail
   refine (HCL.out _ HB5.out).mono ?_
   rintro e w6 ⟨hb6, v6, rfl, s6, F, rfl, hs6, hn6, hF6⟩
   obtain ⟨sa, sc, rfl⟩ := hs6.form
   obtain ⟨zr, r0, r1, r2, rf⟩ := (HVR5.out.below hb6).facts
   have HB6 := tuck (bAfter HB5.out hb6)
   have HS6 := tuck hs6
   have HN6 := tuck hn6
   have HF6 := tuck hF6
   have HZ : Hid (w.heap.size + 2 < (w4.alloc (.cells #[.int .i64 t.kind, .int .i64 t.num, .slice a t.kids.length c] 25)).heap.size) := tuck HVR5.out.facts.1
   clear hb6 hs6 hn6 hF6 z0' a0' a1' a2'
   go_wp2_with fail
   refine bodyPost_ret (v := .tuple #[.agg #[.int .i64 t.kind, .int .i64 t.num, .slice sa t.kids.length sc], .int .i64 0]) (by simp [results, Tryz.results21, go_sem, *]) rfl (HP.out _ _ F ?_ ?_ HN6.out (fun g hg => ?_))
   ·exact bSet3 HB6.out (by omega) _ _ _ _ _ _
   ·exact HS6.out.set3 (fun h => by have := (HF6.out _ h).1; have := HZ.out; omega) _ _ _ _ _ _
   ·rw [size_set3]
    have := HF6.out g hg
    have := HZ.out
    omega
  | some y =>
   obtain ⟨p, x⟩ := y
   obtain ⟨hip, hx0, hxv, -, hpv⟩ := hfok p x hf hv
   rw [hf] at HF hstep
   rw [Option.map_some] at hstep
   have hstep2 : t.step rl mo = some (around p x.contr) := hstep
   have HPT : Hid ((around p x.contr).Valid → ∀ w' s F, Below w.heap.size w w' → SlOwn w' (around p x.contr).kids s F → F.Nodup → (∀ g ∈ F, w.heap.size ≤ g ∧ g < w'.heap.size) → CodePost w (stepOut rl mo t).2 (stepOut rl mo t).1 (.returned (.tuple #[.agg #[.int .i64 (around p x.contr).kind, .int .i64 (around p x.contr).num, s], .int .i64 1])) w') := tuck fun h w' s F h1 h2 h3 h4 => by
    rw [stepOut_took hv hstep2 h]; exact CodePost.made h1 h2 h3 h4
   have HPL : Hid (¬ (around p x.contr).Valid → ∀ w', Below w.heap.size w w' → CodePost w (stepOut rl mo t).2 (stepOut rl mo t).1 (.returned (.tuple #[.agg #[.int .i64 0, .int .i64 0, .slice none 0 0], .int .i64 2])) w') := tuck fun h w' h1 => by
    rw [stepOut_large hv hstep2 h]; exact CodePost.zero h1
   have HSC : Hid (∀ (W : World) (sx : Value) (qs : List (Tm × Value × Nat)) (sa : Option Addr) (gb cap : Nat), Below w.heap.size w W → Passed w p qs → qs.length ≤ 100 → SlIn w 0 x.kids sx → (qs ≠ [] → sa = some ⟨gb, 0, none⟩ ∧ gb < W.heap.size) → (∀ j u, (stkCells qs)[j]? = some u → W.cell? ⟨gb, j, none⟩ = some u) →
     Calls Tryz.prog 37 #[.slice sa qs.length cap, .agg #[.int .i64 x.kind, .int .i64 x.num, sx]] W (ContrPost (fun _ => False) W (around p x.contr).Valid (around p x.contr))) := tuck fun W sx qs sa gb cap hb hpas hl hsx h1 h2 =>
    scontract_any W (fun _ => False) (fun _ h => h.elim) p hip qs (Passed.toX (fun l v h => SlX.of_sl (h.below hb) (fun _ h => h.elim)) hip hpv hpas) (by omega) sa gb cap h1 h2 x hxv.root (fun i hi => hxv.get hi) hx0 sx (SlX.of_sl (hsx.below hb) (fun _ h => h.elim))
   have HCL : Hid ((around p x.contr).Valid → ∀ (W : World) (s : Value), SlIn W 0 (around p x.contr).kids s → Calls Tryz.prog 15 #[.agg #[.int .i64 (around p x.contr).kind, .int .i64 (around p x.contr).num, s]] W (MadePost W (around p x.contr))) := tuck fun h W s hs => by
    have h2 := (valid_bounds h).1
    have := cloneI_any (around p x.contr).kids (around p x.contr).kind (around p x.contr).num W _ (by omega) hs
    rwa [Tm.eta] at this
   generalize CodePost w (stepOut rl mo t).2 (stepOut rl mo t).1 = post at *
   clear hs hb3 hstep hstep2 hfok hf hv HS hszt hip hx0 hxv hpv
   generalize around p x.contr = R at *
   go_enter Tryz.func21, Tryz.ntmps21
   go_wp2_with fail
   refine HVAL.out.mono ?_
   rintro e w1 ⟨rfl, hb1⟩
   have hst := StackAt.new w1
   have hbs := below1 w1 (.cells #[.slice none 0 0] 54)
   have hz1 : w.heap.size + 3 ≤ w1.heap.size := by have := (HV2.out.below hb1).facts.1; omega
   have HB2 := tuck (bAfter (bAfter HB3.out hb1) hbs)
   have HVT := tuck ((HV0.out.below hb1).below hbs)
   have HVR := tuck ((HV2.out.below hb1).below hbs)
   have hsb := (bAfter hb1 hbs).block _ (block_of_cells HSB.out).1 |>.trans HSB.out
   obtain ⟨zs, db, -⟩ := block_of_cells hsb
   have b0 : (w1.alloc (.cells #[.slice none 0 0] 54)).cell? ⟨w.heap.size + 1, 0, none⟩ = some (.bool rl) := db 0
   have b1 : (w1.alloc (.cells #[.slice none 0 0] 54)).cell? ⟨w.heap.size + 1, 1, none⟩ = some (.bool mo) := db 1
   obtain ⟨z0, a0, a1, a2, -⟩ := HVT.out.facts
   have HST := tuck hst
   clear hb1 hst hbs hsb db HVAL HB3 HV0 HV2 HSB
   go_wp2_with fail
   generalize w1.alloc (.cells #[.slice none 0 0] 54) = W2 at *
   generalize w1.heap.size = g at *
   refine (HF.out _ _ g HB2.out (by omega) HST.out).mono ?_
   rintro e w4 ⟨M', hstp, sx, qs, rfl, hsx, hstk, hpas⟩
   rw [List.nil_append] at hstk
   obtain ⟨xa, xc, rfl⟩ := hsx.form
   obtain ⟨sa, gb, cap, hcv, hgb, hcells⟩ := hstk.view
   have hM : ∀ i, (i = g ∨ (Value.slice none 0 0).ownBlock = some i) → w.heap.size + 3 ≤ i := fun i hi => Nat.le_trans hz1 (HST.out.lt i hi).1
   have hB4 := hstp.below HB2.out (by have := HVR.out.facts.1; omega) (fun i hi => by have := hM i hi; omega)
   have hbx := below1 w4 (.cells #[.int .i64 x.kind, .int .i64 x.num, .slice xa x.kids.length xc] 25)
   have HB5 := tuck (bAfter hB4 hbx)
   have HVR5 := tuck ((HVR.out.stepK hstp (fun h => by have := hM _ h; omega)).below hbx)
   have zg := World.block_lt_of_cell? w4 _ hcv
   have hcv5 := (hbx.cell (p := ⟨g, 0, none⟩) zg).trans hcv
   have HSC5 := tuck (HSC.out _ _ qs sa gb cap HB5.out hpas hstk.1 hsx (fun hn => ⟨(hgb hn).1, Nat.lt_of_lt_of_le (hgb hn).2 hbx.size⟩) (fun j u hu => (hbx.cell (World.block_lt_of_cell? w4 _ (hcells j u hu))).trans (hcells j u hu)))
   obtain ⟨zx, x0, x1, x2, -⟩ := (VarAt.new w4 x.kind x.num (.slice xa x.kids.length xc)).facts
   clear hstp hM hB4 hbx HST HF HSC b0 b1 zs z0 a0 a1 a2 hcv hgb hcells hpas hsx hstk
   go_wp2_with fail
   refine HSC5.out.mono ?_
   rintro e w6 hp6
   obtain ⟨U, ua, uc, rfl, hb6, hs6, hU⟩ := hp6.open
   have hbx := below1 w6 (.cells #[.int .i64 U.kind, .int .i64 U.num, .slice ua U.kids.length uc] 25)
   have HB7 := tuck (bAfter (bAfter HB5.out hb6) hbx)
   have HVR7 := tuck ((HVR5.out.below hb6).below hbx)
   have HS7 := tuck (hs6.below hbx).sl
   by_cases hR : R.Valid
   ·obtain rfl := hU hR
    rw [tr_of hR]
    replace HPT := tuck (HPT.out hR)
    replace HCL := tuck (HCL.out hR _ _ HS7.out)
    clear hp6 hU hb6 hs6 hbx hR HPL HSC5 zx x0 x1 x2 hcv5 zg HVR5 HB5 HVR HVT HB2
    go_wp2_with fail
    refine HCL.out.mono ?_
    rintro e w8 ⟨hb8, v8, rfl, s8, F, rfl, hs8, hn8, hF8⟩
    obtain ⟨ta, tc, rfl⟩ := hs8.form
    obtain ⟨zr, r0, r1, r2, rf⟩ := (HVR7.out.below hb8).facts
    have HB8 := tuck (bAfter HB7.out hb8)
    have HS8 := tuck hs8
    have HN8 := tuck hn8
    have HF8 := tuck hF8
    have HZ : Hid (w.heap.size + 2 < (w6.alloc (.cells #[.int .i64 U.kind, .int .i64 U.num, .slice ua U.kids.length uc] 25)).heap.size) := tuck HVR7.out.facts.1
    clear hb8 hs8 hn8 hF8
    go_wp2_with fail
    refine bodyPost_ret (v := .tuple #[.agg #[.int .i64 U.kind, .int .i64 U.num, .slice ta U.kids.length tc], .int .i64 1]) (by simp [results, Tryz.results21, go_sem, *]) rfl (HPT.out _ _ F ?_ ?_ HN8.out (fun g hg => ?_))
    ·exact bSet3 HB8.out (by omega) _ _ _ _ _ _
    ·exact HS8.out.set3 (fun h => by have := (HF8.out _ h).1; have := HZ.out; omega) _ _ _ _ _ _
    ·rw [size_set3]
     have := HF8.out g hg
     have := HZ.out
     omega
   ·rw [tr_not hR]
    replace HPL := tuck (HPL.out hR)
    obtain ⟨zr', r0', r1', r2', rf'⟩ := (HVR5.out.below hb6).facts
    obtain ⟨zr, r0, r1, r2, rf⟩ := HVR7.out.facts
    have HB6 := tuck (bAfter HB5.out hb6)
    clear hp6 hU hb6 hs6 hbx hR HPT HSC5 zx x0 x1 x2 hcv5 zg HVR HVT HB2
    go_wp2_with fail
    refine bodyPost_ret (v := .tuple #[.agg #[.int .i64 0, .int .i64 0, .slice none 0 0], .int .i64 2]) (by simp [results, Tryz.results21, go_sem, *]) rfl (HPL.out _ ?_)
    exact bAfter (bSet3 HB6.out (by omega) _ _ _ _ _ _) (below1 _ _)
 ·rw [tr_not hv] at HVAL
  rw [stepOut_no hv]
  dsimp only
  have HP : Hid (∀ w', Below w.heap.size w w' → CodePost w 3 zeroT (.returned (.tuple #[.agg #[.int .i64 0, .int .i64 0, .slice none 0 0], .int .i64 3])) w') := tuck fun w' h1 => CodePost.zero h1
  generalize CodePost w 3 zeroT = post at *
  clear hs hb3 hv HS HV0 HSB
  go_enter Tryz.func21, Tryz.ntmps21
  go_wp2_with fail
  refine HVAL.out.mono ?_
  rintro e w1 ⟨rfl, hb1⟩
  obtain ⟨zr, r0, r1, r2, rf⟩ := (HV2.out.below hb1).facts
  have HB1 := tuck (bAfter HB3.out hb1)
  clear hb1 HVAL
  go_wp2_with fail
  refine bodyPost_ret (v := .tuple #[.agg #[.int .i64 0, .int .i64 0, .slice none 0 0], .int .i64 3]) (by simp [results, Tryz.results21, go_sem, *]) rfl (HP.out _ ?_)
  exact bSet3 HB1.out (by omega) _ _ _ _ _ _
end Go.Proofs.YtlbikgnanabjgaaGreat
