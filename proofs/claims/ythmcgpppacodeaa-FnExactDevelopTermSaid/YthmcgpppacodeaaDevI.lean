/-
  impl.developNode, impl.foldTerm over it.
-/
import Derived.Test.YthmcgpppacodeaaContrE
import Derived.Test.YthmcgpppacodeaaDevP
namespace Go.Proofs.Ythmcgpppacodeaa
open Go.RowKit

set_option maxRecDepth 100000 in
theorem devNode_any (t : Tm) (hr : t.rootOk) (l : List Tm) (hl : l.length = t.kids.length) (hk : ∀ i (hi : i < l.length), l[i].Valid) (hd : t.redex ≠ 0 → (Tm.mk t.kind t.num l).redex = t.redex) (w : World) (X : Nat → Prop) (hX : ∀ i, X i → i < w.heap.size) (s v : Value) (hs : SlIn w 0 t.kids s) (hv : SlX w X l v) :
    Calls Try.prog 69 #[.agg #[.int .i64 t.kind, .int .i64 t.num, s], v] w (ContrPost X w (devC t l).Valid (devC t l)) := by
  obtain ⟨a, c, rfl⟩ := hs.form
  obtain ⟨va, vc, rfl⟩ := hv.form
  have hb2 := below2 w (.cells #[.int .i64 t.kind, .int .i64 t.num, .slice a t.kids.length c] 28) (.cells #[.int .i64 0, .int .i64 0, .slice none 0 0] 28)
  have hb3 := bAfter hb2 (below1 ((w.alloc (.cells #[.int .i64 t.kind, .int .i64 t.num, .slice a t.kids.length c] 28)).alloc (.cells #[.int .i64 0, .int .i64 0, .slice none 0 0] 28)) (.cells #[.int .i64 t.kind, .int .i64 t.num, .slice va l.length vc] 28))
  have HV1 := tuck ((var_new1 w (.cells #[.int .i64 t.kind, .int .i64 t.num, .slice a t.kids.length c] 28) 0 0 (.slice none 0 0)).below (below1 _ (.cells #[.int .i64 t.kind, .int .i64 t.num, .slice va l.length vc] 28)))
  have HV2 := tuck (var_new2 w (.cells #[.int .i64 t.kind, .int .i64 t.num, .slice a t.kids.length c] 28) (.cells #[.int .i64 0, .int .i64 0, .slice none 0 0] 28) t.kind t.num (.slice va l.length vc))
  have HRED := tuck (redI_any t hr _ (.slice a t.kids.length c) (hs.below hb3))
  have HB3 := tuck hb3
  have HZ3 : Hid ((((w.alloc (.cells #[.int .i64 t.kind, .int .i64 t.num, .slice a t.kids.length c] 28)).alloc (.cells #[.int .i64 0, .int .i64 0, .slice none 0 0] 28)).alloc (.cells #[.int .i64 t.kind, .int .i64 t.num, .slice va l.length vc] 28)).heap.size = w.heap.size + 3) := tuck (by simp)
  have HVX := tuck hv
  have HPOST : Hid (∀ (c0 : Bool) (U : Tm) (a' : Option Addr) (c' : Nat) w', Below w.heap.size w w' → c0 = tr (devC t l).Valid → SlX w' X U.kids (.slice a' U.kids.length c') → ((devC t l).Valid → U = devC t l) → ContrPost X w (devC t l).Valid (devC t l) (.returned (.tuple #[.agg #[.int .i64 U.kind, .int .i64 U.num, .slice a' U.kids.length c'], .bool c0])) w') := tuck fun c0 U a' c' w' h1 h2 h3 h4 =>
    ⟨h1, U, _, by rw [h2], h3, h4⟩
  clear hb2 hb3
  by_cases h0 : t.redex = 0
  · have hdc : devC t l = .mk t.kind t.num l := if_pos h0
    have HVAL : Hid (∀ w', Below w.heap.size w w' → Calls Try.prog 43 #[.agg #[.int .i64 t.kind, .int .i64 t.num, .slice va l.length vc]] w' (BoolPost w' (tr (devC t l).Valid))) := tuck fun w' h => by
      rw [hdc]
      exact validI_any (.mk t.kind t.num l) w' _ ⟨_, rfl, (hv.below h).sl⟩
    replace HPOST : Hid (∀ (c0 : Bool) w', Below w.heap.size w w' → c0 = tr (devC t l).Valid → SlX w' X l (.slice va l.length vc) → ContrPost X w (devC t l).Valid (devC t l) (.returned (.tuple #[.agg #[.int .i64 t.kind, .int .i64 t.num, .slice va l.length vc], .bool c0])) w') := tuck fun c0 w' h1 h2 h3 =>
      HPOST.out c0 (.mk t.kind t.num l) va vc w' h1 h2 h3 (fun _ => hdc.symm)
    rw [h0] at HRED
    generalize ContrPost X w (devC t l).Valid (devC t l) = post at *
    generalize tr (devC t l).Valid = cc at *
    clear hs hv hX hr hk hd h0 hdc hl
    go_enter Try.func69, Try.ntmps69
    go_wp2_with fail
    generalize ((w.alloc (.cells #[.int .i64 t.kind, .int .i64 t.num, .slice a t.kids.length c] 28)).alloc (.cells #[.int .i64 0, .int .i64 0, .slice none 0 0] 28)).alloc (.cells #[.int .i64 t.kind, .int .i64 t.num, .slice va l.length vc] 28) = W0 at *
    refine HRED.out.mono ?_
    rintro e w1 ⟨rfl, hb1⟩
    have HB1 := tuck (bAfter HB3.out hb1)
    have HN1 := tuck (HV2.out.below hb1)
    have HR1 := tuck (HV1.out.below hb1)
    have HLT : Hid (w.heap.size + 1 < w1.heap.size) := tuck (HV1.out.below hb1).facts.1
    clear hb1 HRED
    go_wp2_with fail
    have hgn : w.heap.size + 1 + 1 ≠ w.heap.size + 1 := by omega
    have HQ0 : Hid ((fun w' : World => w.heap.size + 1 + 1 < w'.heap.size ∧ w'.cell? ⟨w.heap.size + 1 + 1, 0, none⟩ = some (.int .i64 t.kind) ∧ w'.cell? ⟨w.heap.size + 1 + 1, 1, none⟩ = some (.int .i64 t.num) ∧ w'.cell? ⟨w.heap.size + 1 + 1, 2, none⟩ = some (.slice va l.length vc)) w1.drew) := tuck ⟨HN1.out.facts.1, HN1.out.facts.2.1, HN1.out.facts.2.2.1, HN1.out.facts.2.2.2.1⟩
    go_region_held3 (fun w' => w.heap.size + 1 + 1 < w'.heap.size ∧ w'.cell? ⟨w.heap.size + 1 + 1, 0, none⟩ = some (.int .i64 t.kind) ∧ w'.cell? ⟨w.heap.size + 1 + 1, 1, none⟩ = some (.int .i64 t.num) ∧ w'.cell? ⟨w.heap.size + 1 + 1, 2, none⟩ = some (.slice va l.length vc)) (first | exact HQ0.out | exact HK2.out | exact HK3.out) ((go_at_call 43; refine (HVAL.out _ (bAfter HB1.out (Below.refl _ _).drew)).mono ?_; rintro e w2 ⟨rfl, hb2⟩; have HB2 := tuck (bAfter HB1.out (bAfter (Below.refl _ _).drew hb2)); have HQN2 := tuck ((HN1.out.below (Below.refl _ _).drew).below hb2); have HQN3 := tuck (HQN2.out.far3 hgn 0 1 2 (.int .i64 t.kind) (.int .i64 t.num) (.slice va l.length vc)); have HK2 : Hid ((fun w' : World => w.heap.size + 1 + 1 < w'.heap.size ∧ w'.cell? ⟨w.heap.size + 1 + 1, 0, none⟩ = some (.int .i64 t.kind) ∧ w'.cell? ⟨w.heap.size + 1 + 1, 1, none⟩ = some (.int .i64 t.num) ∧ w'.cell? ⟨w.heap.size + 1 + 1, 2, none⟩ = some (.slice va l.length vc)) w2) := tuck ⟨HQN2.out.facts.1, HQN2.out.facts.2.1, HQN2.out.facts.2.2.1, HQN2.out.facts.2.2.2.1⟩; have HK3 := tuck (show (fun w' : World => w.heap.size + 1 + 1 < w'.heap.size ∧ w'.cell? ⟨w.heap.size + 1 + 1, 0, none⟩ = some (.int .i64 t.kind) ∧ w'.cell? ⟨w.heap.size + 1 + 1, 1, none⟩ = some (.int .i64 t.num) ∧ w'.cell? ⟨w.heap.size + 1 + 1, 2, none⟩ = some (.slice va l.length vc)) _ from ⟨HQN3.out.facts.1, HQN3.out.facts.2.1, HQN3.out.facts.2.2.1, HQN3.out.facts.2.2.2.1⟩); obtain ⟨zr, r0, r1, r2, rf⟩ := ((HR1.out.below (Below.refl _ _).drew).below hb2).facts; clear hb2))
    all_goals (try go_wp2_with fail)
    all_goals
      refine bodyPost_ret (v := .tuple #[.agg #[.int .i64 t.kind, .int .i64 t.num, .slice va l.length vc], .bool cc]) (by simp [results, Try.results69, go_sem, *]) rfl (HPOST.out _ _ ?_ rfl ?_)
      · exact bSet3 HB2.out (Nat.le_succ _) _ _ _ _ _ _
      · exact ((HVX.out.widen HB2.out (w.heap.size + 3)).set3 (Or.inr ⟨Nat.le_succ _, by omega⟩) _ _ _ _ _ _).narrow fun i h => Or.inl h
  · have hne : (t.redex == 0) = false := by simpa using h0
    have hdr := hd h0
    have hdc : devC t l = (Tm.mk t.kind t.num l).contr := if_neg h0
    have hrn : (Tm.mk t.kind t.num l).rootOk := ⟨by show arity t.kind = l.length; rw [hl]; exact hr.1, hr.2⟩
    have HCON : Hid (∀ w', Below w.heap.size w w' → w.heap.size + 3 ≤ w'.heap.size → Calls Try.prog 44 #[.agg #[.int .i64 t.kind, .int .i64 t.num, .slice va l.length vc]] w' (ContrPost (With X w (w.heap.size + 3)) w' (devC t l).Valid (devC t l))) := tuck fun w' h hz => by
      have h2 := contract_any (.mk t.kind t.num l) hrn hk w' (With X w (w.heap.size + 3)) (fun i hi => by
        rcases hi with hi | hi
        · have := hX i hi; have := h.size; omega
        · omega) _ (hv.widen h _)
      rw [show ((Tm.mk t.kind t.num l).redex ≠ 0 ∧ (Tm.mk t.kind t.num l).contr.Valid) = (devC t l).Valid from propext (by rw [hdc]; exact ⟨fun h => h.2, fun h => ⟨by rw [hdr]; exact h0, h⟩⟩), ← hdc] at h2
      exact h2
    generalize t.redex = R at *
    generalize ContrPost X w (devC t l).Valid (devC t l) = post at *
    clear hs hv hX hr hk hd h0 hdc hdr hrn hl
    generalize (devC t l).Valid = V at *
    generalize devC t l = C at *
    go_enter Try.func69, Try.ntmps69
    go_wp2_with fail
    generalize ((w.alloc (.cells #[.int .i64 t.kind, .int .i64 t.num, .slice a t.kids.length c] 28)).alloc (.cells #[.int .i64 0, .int .i64 0, .slice none 0 0] 28)).alloc (.cells #[.int .i64 t.kind, .int .i64 t.num, .slice va l.length vc] 28) = W0 at *
    refine HRED.out.mono ?_
    rintro e w1 ⟨rfl, hb1⟩
    have HB1 := tuck (bAfter HB3.out hb1)
    obtain ⟨zn, n0, n1, n2, -⟩ := (HV2.out.below hb1).facts
    have HR1 := tuck (HV1.out.below hb1)
    have hlt : w.heap.size + 3 ≤ w1.heap.size := by omega
    clear hb1 HRED
    go_wp2_with fail
    refine (HCON.out _ HB1.out hlt).mono ?_
    rintro e w2 hp2
    obtain ⟨U, ua, uc, rfl, hb2, hs2, hU⟩ := hp2.open
    obtain ⟨zr, r0, r1, r2, rf⟩ := (HR1.out.below hb2).facts
    have HB2 := tuck (bAfter HB1.out hb2)
    have HS2 := tuck hs2
    have HU := tuck hU
    clear hp2 hb2 hs2 hU n0 n1 n2
    go_wp2_with fail
    refine bodyPost_ret (v := .tuple #[.agg #[.int .i64 U.kind, .int .i64 U.num, .slice ua U.kids.length uc], .bool (tr V)]) (by simp [results, Try.results69, go_sem, *]) rfl (HPOST.out _ U ua uc _ ?_ rfl ?_ HU.out)
    · exact bSet3 HB2.out (Nat.le_succ _) _ _ _ _ _ _
    · exact (HS2.out.set3 (Or.inr ⟨Nat.le_succ _, by omega⟩) _ _ _ _ _ _).narrow fun i h => Or.inl h

end Go.Proofs.Ythmcgpppacodeaa
