/-
  StepJ.
-/
import Derived.Test.YteeafpnjpcgfaaaGreatB22
import Derived.Test.YteeafpnjpcgfaaaGreatB39
import Derived.Test.YteeafpnjpcgfaaaGreatB42
namespace Go.Proofs.YteeafpnjpcgfaaaGreat
open Go.RowKit
theorem PassX.widen {w W : World} {X : Nat → Prop} (hb : Below w.heap.size w W) (n : Nat) : ∀ {p : List (Tm × Nat)} {qs : List (Tm × Value × Nat)}, PassX w X p qs → PassX W (With X w n) p qs
 | [], [], _ => trivial
 | (t, i) :: p, (t', s, i') :: q, h => ⟨h.1, h.2.1, h.2.2.1, h.2.2.2.1, h.2.2.2.2.1.widen hb n, PassX.widen hb n h.2.2.2.2.2⟩
 | [], _ :: _, h => by cases h
 | _ :: _, [], h => by cases h
set_option maxRecDepth 100000 in
set_option maxHeartbeats 1600000 in
theorem scontract_any (w : World) (X : Nat → Prop) (hX : ∀ i, X i → i < w.heap.size) (p : List (Tm × Nat)) (hip : InPath p) (qs : List (Tm × Value × Nat)) (hp : PassX w X p qs) (hq : qs.length ≤ 1000) (sa : Option Addr) (gb cap : Nat) (hgb : qs ≠ [] → sa = some ⟨gb, 0, none⟩ ∧ gb < w.heap.size)
  (hc : ∀ j u, (stkCells qs)[j]? = some u → w.cell? ⟨gb, j, none⟩ = some u) (t : Tm) (hr : t.rootOk) (hk : ∀ i (hi : i < t.kids.length), t.kids[i].Valid) (h0 : t.redex ≠ 0) (s : Value) (hs : SlX w X t.kids s) :
  Calls Tryz.prog 106 #[.slice sa qs.length cap, .agg #[.int .i64 t.kind, .int .i64 t.num, s]] w (ContrPost X w (around p t.contr).Valid (around p t.contr)) := by
 obtain ⟨a, c, rfl⟩ := hs.form
 have hb2 := below2 w (.cells #[.int .i64 t.kind, .int .i64 t.num, .slice a t.kids.length c] 29) (.cells #[.int .i64 0, .int .i64 0, .slice none 0 0] 29)
 have HV0 := tuck ((VarAt.new w t.kind t.num (.slice a t.kids.length c)).below (below1 _ (.cells #[.int .i64 0, .int .i64 0, .slice none 0 0] 29)))
 have HV1 := tuck (var_new1 w (.cells #[.int .i64 t.kind, .int .i64 t.num, .slice a t.kids.length c] 29) 0 0 (.slice none 0 0))
 have HCON := tuck (contract_any t hr hk _ (With X w (w.heap.size + 2)) (fun i hi => by
  rcases hi with hi | hi
  ·have := hX i hi; simp; omega
  ·simp; omega) _ (hs.widen hb2 (w.heap.size + 2)))
 rw [show (t.redex ≠ 0 ∧ t.contr.Valid) = t.contr.Valid from propext ⟨fun h => h.2, fun h => ⟨h0, h⟩⟩] at HCON
 have HB2 := tuck hb2
 have HSZ : Hid (∀ W, Below ((w.alloc (.cells #[.int .i64 t.kind, .int .i64 t.num, .slice a t.kids.length c] 29)).alloc (.cells #[.int .i64 0, .int .i64 0, .slice none 0 0] 29)).heap.size ((w.alloc (.cells #[.int .i64 t.kind, .int .i64 t.num, .slice a t.kids.length c] 29)).alloc (.cells #[.int .i64 0, .int .i64 0, .slice none 0 0] 29)) W → w.heap.size + 2 ≤ W.heap.size) := tuck fun W h => by have := h.size; simp at this; omega
 have HPOST : Hid (∀ (c0 : Bool) (U : Tm) (a' : Option Addr) (c' : Nat) w', Below w.heap.size w w' → c0 = tr (around p t.contr).Valid → SlX w' X U.kids (.slice a' U.kids.length c') → ((around p t.contr).Valid → U = around p t.contr) → ContrPost X w (around p t.contr).Valid (around p t.contr) (.returned (.tuple #[.agg #[.int .i64 U.kind, .int .i64 U.num, .slice a' U.kids.length c'], .bool c0])) w') := tuck fun c0 U a' c' w' h1 h2 h3 h4 =>
  ⟨h1, U, _, by rw [h2], h3, h4⟩
 by_cases hv : t.contr.Valid
 ·have HAR : Hid (∀ W, Below w.heap.size w W → w.heap.size + 2 ≤ W.heap.size → ∀ s, SlX W (With X w (w.heap.size + 2)) t.contr.kids s → Calls Tryz.prog 113 #[.slice sa qs.length cap, .agg #[.int .i64 t.contr.kind, .int .i64 t.contr.num, s]] W (ArndPost (With X w (w.heap.size + 2)) W (around p t.contr))) := tuck fun W hb hz s hs => by
   exact around_any W (With X w (w.heap.size + 2)) (fun i hi => by
    rcases hi with hi | hi
    ·have := hX i hi; omega
    ·omega) p qs (hp.widen hb _) hq sa gb cap (fun hn => ⟨(hgb hn).1, Nat.lt_of_lt_of_le (hgb hn).2 hb.size⟩) (fun j u hu => (hb.cell (World.block_lt_of_cell? w _ (hc j u hu))).trans (hc j u hu)) t.contr s hs
  have HVAL : Hid (∀ (W : World) (s : Value), SlIn W 0 (around p t.contr).kids s → Calls Tryz.prog 15 #[.agg #[.int .i64 (around p t.contr).kind, .int .i64 (around p t.contr).num, s]] W (BoolPost W (tr (around p t.contr).Valid))) := tuck fun W s h => validI_any (around p t.contr) W _ ⟨_, rfl, h⟩
  generalize ContrPost X w (around p t.contr).Valid (around p t.contr) = post at *
  replace HPOST : Hid (∀ (a' : Option Addr) (c' : Nat) w', Below w.heap.size w w' → SlX w' X (around p t.contr).kids (.slice a' (around p t.contr).kids.length c') → post (.returned (.tuple #[.agg #[.int .i64 (around p t.contr).kind, .int .i64 (around p t.contr).num, .slice a' (around p t.contr).kids.length c'], .bool (tr (around p t.contr).Valid)])) w') := tuck fun a' c' w' h1 h3 => HPOST.out _ (around p t.contr) a' c' w' h1 rfl h3 (fun _ => rfl)
  clear hs hb2 hX hip hp hq hgb hc hr hk h0
  generalize around p t.contr = R at *
  generalize tr R.Valid = cc at *
  generalize t.contr = C at *
  go_enter Tryz.func106, Tryz.ntmps106
  go_wp2_with fail
  generalize (w.alloc (.cells #[.int .i64 t.kind, .int .i64 t.num, .slice a t.kids.length c] 29)).alloc (.cells #[.int .i64 0, .int .i64 0, .slice none 0 0] 29) = W0 at *
  refine HCON.out.mono ?_
  rintro e w3 hp3
  obtain ⟨U, ua, uc, rfl, hb3, hs3, hU⟩ := hp3.open
  obtain rfl := hU hv
  rw [tr_of hv]
  have hbx := below1 w3 (.cells #[.int .i64 U.kind, .int .i64 U.num, .slice ua U.kids.length uc] 29)
  have hb4 := bAfter hb3 hbx
  have HR4 := tuck (HV1.out.below hb4)
  have HB4 := tuck (bAfter HB2.out hb4)
  have HC4 := tuck (HAR.out _ HB4.out (HSZ.out _ hb4) _ (hs3.below hbx))
  clear hp3 hb3 hs3 hU hbx hb4 HAR HCON HSZ hv HV0 HV1
  go_wp2_with fail
  refine HC4.out.mono ?_
  rintro e w5 ⟨hb5, ta, tc, rfl, hs5⟩
  have hbx := below1 w5 (.cells #[.int .i64 R.kind, .int .i64 R.num, .slice ta R.kids.length tc] 29)
  have HVE := tuck (VarAt.new w5 R.kind R.num (.slice ta R.kids.length tc))
  have HRE := tuck ((HR4.out.below hb5).below hbx)
  have HBE := tuck (bAfter HB4.out (bAfter hb5 hbx))
  have HSE := tuck (hs5.below hbx)
  have hgn : w5.heap.size ≠ w.heap.size + 1 := by have := (HR4.out.below hb5).facts.1; omega
  have hgw : w.heap.size ≤ w5.heap.size := by have := (HR4.out.below hb5).facts.1; omega
  clear hb5 hs5 hbx HR4 HB4 HC4
  go_wp2_with fail
  generalize w5.alloc (.cells #[.int .i64 R.kind, .int .i64 R.num, .slice ta R.kids.length tc] 29) = WE at *
  generalize w5.heap.size = G at *
  have HQ0 : Hid ((fun w' : World => G < w'.heap.size ∧ w'.cell? ⟨G, 0, none⟩ = some (.int .i64 R.kind) ∧ w'.cell? ⟨G, 1, none⟩ = some (.int .i64 R.num) ∧ w'.cell? ⟨G, 2, none⟩ = some (.slice ta R.kids.length tc)) WE.drew) := tuck ⟨HVE.out.facts.1, HVE.out.facts.2.1, HVE.out.facts.2.2.1, HVE.out.facts.2.2.2.1⟩
  go_region_held3 (fun w' => G < w'.heap.size ∧ w'.cell? ⟨G, 0, none⟩ = some (.int .i64 R.kind) ∧ w'.cell? ⟨G, 1, none⟩ = some (.int .i64 R.num) ∧ w'.cell? ⟨G, 2, none⟩ = some (.slice ta R.kids.length tc)) (first | exact HQ0.out | exact HK2.out | exact HK3.out) ((go_at_call 15; refine (HVAL.out _ _ ((HSE.out.below (Below.refl _ _).drew).sl)).mono ?_; rintro e w2 ⟨rfl, hb2⟩; have HB2 := tuck (bAfter HBE.out (bAfter (Below.refl _ _).drew hb2)); have HS2 := tuck ((HSE.out.below (Below.refl _ _).drew).below hb2); have HQN2 := tuck ((HVE.out.below (Below.refl _ _).drew).below hb2); have HQN3 := tuck (HQN2.out.far3 hgn 0 1 2 (.int .i64 R.kind) (.int .i64 R.num) (.slice ta R.kids.length tc)); have HK2 : Hid ((fun w' : World => G < w'.heap.size ∧ w'.cell? ⟨G, 0, none⟩ = some (.int .i64 R.kind) ∧ w'.cell? ⟨G, 1, none⟩ = some (.int .i64 R.num) ∧ w'.cell? ⟨G, 2, none⟩ = some (.slice ta R.kids.length tc)) w2) := tuck ⟨HQN2.out.facts.1, HQN2.out.facts.2.1, HQN2.out.facts.2.2.1, HQN2.out.facts.2.2.2.1⟩; have HK3 := tuck (show (fun w' : World => G < w'.heap.size ∧ w'.cell? ⟨G, 0, none⟩ = some (.int .i64 R.kind) ∧ w'.cell? ⟨G, 1, none⟩ = some (.int .i64 R.num) ∧ w'.cell? ⟨G, 2, none⟩ = some (.slice ta R.kids.length tc)) _ from ⟨HQN3.out.facts.1, HQN3.out.facts.2.1, HQN3.out.facts.2.2.1, HQN3.out.facts.2.2.2.1⟩); obtain ⟨zr, r0, r1, r2, rf⟩ := ((HRE.out.below (Below.refl _ _).drew).below hb2).facts; clear hb2))
  all_goals (try go_wp2_with fail)
  all_goals
   refine bodyPost_ret (v := .tuple #[.agg #[.int .i64 R.kind, .int .i64 R.num, .slice ta R.kids.length tc], .bool cc]) (by simp [results, Tryz.results106, go_sem, *]) rfl (HPOST.out _ _ _ ?_ ?_)
   ·exact bSet3 HB2.out (Nat.le_succ _) _ _ _ _ _ _
   ·exact (HS2.out.set3 (Or.inr ⟨Nat.le_succ _, by omega⟩) _ _ _ _ _ _).narrow fun i h => Or.inl h
 ·have hnv : ¬ (around p t.contr).Valid := fun h => hv (around_valid p _ hip h)
  replace HPOST : Hid (∀ w', Below w.heap.size w w' → ContrPost X w (around p t.contr).Valid (around p t.contr) (.returned (.tuple #[.agg #[.int .i64 0, .int .i64 0, .slice none 0 0], .bool false])) w') := tuck fun w' h1 => HPOST.out false zeroT none 0 w' h1 (tr_not hnv).symm (SlX.nil _ _ _ _) (fun h => absurd h hnv)
  generalize ContrPost X w (around p t.contr).Valid (around p t.contr) = post at *
  clear hs hb2 hX hip hp hq hgb hc hr hk h0 hnv
  generalize t.contr = C at *
  go_enter Tryz.func106, Tryz.ntmps106
  go_wp2_with fail
  generalize (w.alloc (.cells #[.int .i64 t.kind, .int .i64 t.num, .slice a t.kids.length c] 29)).alloc (.cells #[.int .i64 0, .int .i64 0, .slice none 0 0] 29) = W0 at *
  refine HCON.out.mono ?_
  rintro e w3 hp3
  obtain ⟨U, ua, uc, rfl, hb3, hs3, -⟩ := hp3.open
  rw [tr_not hv]
  obtain ⟨zr, r0, r1, r2, rf⟩ := (HV1.out.below hb3).facts
  have hbk := below1 w3 (.cells #[.int .i64 U.kind, .int .i64 U.num, .slice ua U.kids.length uc] 29)
  obtain ⟨zr', r0', r1', r2', rf'⟩ := ((HV1.out.below hb3).below hbk).facts
  have HB3 := tuck (bAfter HB2.out hb3)
  clear hp3 hb3 hs3 hbk HCON
  go_wp2_with fail
  refine bodyPost_ret (v := .tuple #[.agg #[.int .i64 0, .int .i64 0, .slice none 0 0], .bool false]) (by simp [results, Tryz.results106, go_sem, *]) rfl (HPOST.out _ ?_)
  exact bAfter (bSet3 HB3.out (Nat.le_succ _) _ _ _ _ _ _) (below1 _ _)
end Go.Proofs.YteeafpnjpcgfaaaGreat
namespace Go.Proofs.YteeafpnjpcgfaaaGreat
open Go.RowKit
theorem Passed.toX {u w : World} {X : Nat → Prop} (hv : ∀ l v, SlIn u 0 l v → SlX w X l v) : ∀ {p : List (Tm × Nat)} {qs : List (Tm × Value × Nat)}, InPath p → (∀ y ∈ p, y.1.Valid) → Passed u p qs → PassX w X p qs
 | [], [], _, _, _ => trivial
 | (t, i) :: p, (t', s, i') :: q, hp, hy, h => ⟨h.1, h.2.1, hp.1, root_len (hy (t, i) (by simp)).root, hv _ _ h.2.2.1, Passed.toX hv hp.2 (fun y h => hy y (by simp [h])) h.2.2.2⟩
 | [], _ :: _, _, _, h => by cases h
 | _ :: _, [], _, _, h => by cases h
theorem StkAt.view {g o : Nat} {T : TypeId} {cs : Array Value} {qs : List (Tm × Value × Nat)} {M : Nat → Prop} {w : World} (h : StkAt g o T cs qs M w) : ∃ (sa : Option Addr) (gb cap : Nat), w.cell? ⟨g, o, none⟩ = some (.slice sa qs.length cap) ∧ (qs ≠ [] → sa = some ⟨gb, 0, none⟩ ∧ gb < w.heap.size) ∧
  ∀ j u, (stkCells qs)[j]? = some u → w.cell? ⟨gb, j, none⟩ = some u := by
 obtain ⟨h1, v, h2, ho, h3, rfl⟩ := h
 have hc := (stk_cells h2 ho).2.1
 have hrow := h3
 rcases h3.2 with ⟨e1, e2⟩ | ⟨gb, cap, cur, rfl, r1, r2, r3⟩
 ·have : qs = [] := List.length_eq_zero_iff.1 e2
  subst this
  subst e1
  exact ⟨none, 0, 0, hc, fun h => absurd rfl h, fun j u hu => by simp [stkCells] at hu⟩
 ·refine ⟨_, gb, cap, hc, fun _ => ⟨rfl, (block_of_cells r2).1⟩, fun j u hu => ?_⟩
  have := hrow.cells (g := gb) rfl j u hu
  have hadd : (⟨gb, 0, none⟩ : Addr).add j = ⟨gb, j, none⟩ := by unfold Addr.add; split <;> simp_all
  rwa [hadd] at this
theorem stepOut_none {rl mo : Bool} {t : Tm} (h : t.Valid) (hs : t.step rl mo = none) : stepOut rl mo t = (t, 0) := by unfold stepOut; rw [if_pos h, hs]
theorem stepOut_took {rl mo : Bool} {t t' : Tm} (h : t.Valid) (hs : t.step rl mo = some t') (hv : t'.Valid) : stepOut rl mo t = (t', 1) := by unfold stepOut; rw [if_pos h, hs]; exact if_pos hv
theorem stepOut_large {rl mo : Bool} {t t' : Tm} (h : t.Valid) (hs : t.step rl mo = some t') (hv : ¬ t'.Valid) : stepOut rl mo t = (zeroT, 2) := by unfold stepOut; rw [if_pos h, hs]; exact if_neg hv
end Go.Proofs.YteeafpnjpcgfaaaGreat
