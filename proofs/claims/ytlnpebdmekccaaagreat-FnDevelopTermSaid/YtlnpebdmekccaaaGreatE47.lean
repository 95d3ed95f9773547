/-
  DevI, DrawA.
-/
import Derived.Test.YtlnpebdmekccaaaGreatE30
import Derived.Test.YtlnpebdmekccaaaGreatE36
import Derived.Test.YtlnpebdmekccaaaGreatE37
import Derived.Test.YtlnpebdmekccaaaGreatE46
namespace Go.Proofs.YtlnpebdmekccaaaGreat
open Go.RowKit
theorem leafS_any (k n : Int) (w : World) : Calls Tryz.prog 86 #[.int .i64 k, .int .i64 n] w fun e w' => e = .returned (.agg #[.int .i64 k, .int .i64 n, .slice none 0 0]) ∧ Below w.heap.size w w' := by
 go_enter Tryz.func86, Tryz.ntmps86
 go_wp2
 refine bodyPost_ret (v := .agg #[.int .i64 k, .int .i64 n, .slice none 0 0]) (by simp [results, Tryz.results86, go_sem]) rfl ⟨rfl, below1 _ _⟩
def AnyPost (g : Nat) (a : Option Addr) (len cap p : Nat) (w : World) (e : Ending) (w' : World) : Prop :=
 ∃ (t : Tm) (s : Value) (F : List Nat) (p' : Nat), e = .returned (.agg #[.int .i64 t.kind, .int .i64 t.num, s]) ∧ SlOwn w' t.kids s F ∧ F.Nodup ∧ (∀ x ∈ F, w.heap.size ≤ x ∧ x < w'.heap.size) ∧ t.Valid ∧ p' ≤ p + 1876 ∧ Rd g a len cap p' w' ∧ Only g w w'
set_option maxRecDepth 100000 in
set_option maxHeartbeats 1600000 in
theorem lany_any {U : Nat → Int} {g b o len cap p : Nat} {a : Option Addr} (w : World) (hlen : len ≤ 2000) (hbg : 0 < len → b ≠ g) (hp : p ≤ 90000) (hrd : Rd g a len cap p w) (hby : Bytes U a b o len w) :
  Calls Tryz.prog 91 #[.pointer (some ⟨g, 0, none⟩)] w (AnyPost g a len cap p w) := by
 have hg := hrd.facts.1
 have HRD := tuck hrd
 have HBY := tuck hby
 have HPOST : Hid (∀ (t : Tm) (w' : World) (s : Value) (F : List Nat) (p' : Nat), SlOwn w' t.kids s F → F.Nodup → (∀ x ∈ F, w.heap.size ≤ x ∧ x < w'.heap.size) → t.Valid → p' ≤ p + 1876 → Rd g a len cap p' w' → Only g w w' → AnyPost g a len cap p w (.returned (.agg #[.int .i64 t.kind, .int .i64 t.num, s])) w') := fun t w' s F p' h1 h2 h3 h4 h5 h6 h7 => ⟨t, s, F, p', rfl, h1, h2, h3, h4, h5, h6, h7⟩
 generalize AnyPost g a len cap p w = post at *
 have HL1 : Hid (DInts (fun i => ([3, 4, 2, 3, 1] : List Int).getD i 0) (w.heap.size + 1) 0 5 ((w.alloc (.cells #[.int .i64 0, .int .i64 0, .slice none 0 0] 25)).alloc (.cells #[.int .i64 3, .int .i64 4, .int .i64 2, .int .i64 3, .int .i64 1] 3))) := by
  have := ints_new [3, 4, 2, 3, 1] (w.alloc (.cells #[.int .i64 0, .int .i64 0, .slice none 0 0] 25)) 3
  rwa [show (w.alloc (.cells #[.int .i64 0, .int .i64 0, .slice none 0 0] 25)).heap.size = w.heap.size + 1 by simp] at this
 have HO0 : Hid (Only g w ((w.alloc (.cells #[.int .i64 0, .int .i64 0, .slice none 0 0] 25)).alloc (.cells #[.int .i64 3, .int .i64 4, .int .i64 2, .int .i64 3, .int .i64 1] 3))) := ((Only.refl g w).alloc _).alloc _
 have HV0 : Hid (VarAt w.heap.size 0 0 (.slice none 0 0) ((w.alloc (.cells #[.int .i64 0, .int .i64 0, .slice none 0 0] 25)).alloc (.cells #[.int .i64 3, .int .i64 4, .int .i64 2, .int .i64 3, .int .i64 1] 3))) := (VarAt.new w 0 0 (.slice none 0 0)).below (below1 _ _)
 clear hrd hby
 go_enter Tryz.func91, Tryz.ntmps91
 go_wp2_with fail
 refine (num_any (N := fun i => ([3, 4, 2, 3, 1] : List Int).getD i 0) (o2 := 0) (n := 5) _ hlen (by omega) (by omega) (by omega) (HRD.out.below (below2 _ _ _)) (HBY.out.below (below2 _ _ _)) hbg HL1.out (by omega)).mono ?_
 rintro e w1 ⟨i1, hi1, he, hrd, ho⟩
 obtain ⟨d, hd⟩ : ∃ d : Int, d = ([3, 4, 2, 3, 1] : List Int).getD i1 0 := ⟨_, rfl⟩
 obtain rfl : e = .returned (.int .i64 d) := by rw [hd]; exact he
 clear he
 have hk := (by decide : ∀ i < 5, 1 ≤ ([3, 4, 2, 3, 1] : List Int).getD i 0 ∧ ([3, 4, 2, 3, 1] : List Int).getD i 0 ≤ 4) i1 hi1
 rw [← hd] at hk
 clear hd
 obtain ⟨hk0, hk1⟩ := hk
 have HY0 := tuck (HV0.out.only ho (by omega))
 have hzr : w.heap.size < w1.heap.size := HY0.out.facts.1
 have HO := tuck (HO0.out.trans ho)
 have HD := tuck (ldraw_any hlen hbg 4 (by omega) d (p + 1) w1 (by omega) (by omega) (by omega) hrd ((HBY.out.below (below2 w _ _)).only ho hbg))
 clear hrd ho HO0 HV0 HL1
 go_wp2_with fail
 refine HD.out.mono ?_
 rintro e w2 ⟨T, ts, G, p2, rfl, hso, hnd, hF, hsz, hp2, hrd, ho⟩
 obtain ⟨ta, tc, rfl⟩ := hso.form
 replace HY0 := tuck (HY0.out.only ho (by omega))
 have hz1 : w.heap.size ≤ w1.heap.size := HO.out.size
 have HGB : Hid (∀ x ∈ G, w1.heap.size ≤ x ∧ x < w2.heap.size) := tuck hF
 have hz2 : w1.heap.size ≤ w2.heap.size := ho.size
 replace HO := tuck (HO.out.trans ho)
 have HR := tuck hrd
 have HP2 : Hid (p2 ≤ p + 1 + 3 * 625) := tuck hp2
 have HSO := tuck hso
 have HND := tuck hnd
 clear hso hnd hF hsz hp2 hrd ho HD
 go_wp2_with fail
 have HV : Hid (∀ W : World, Below w2.heap.size w2 W → Calls Tryz.prog 34 #[.agg #[.int .i64 T.kind, .int .i64 T.num, .slice ta T.kids.length tc]] W (BoolPost W (tr T.Valid))) := fun W h => validS_any T W _ ⟨_, rfl, (HSO.out.sl (B := 0) (fun _ _ => Nat.zero_le _)).below h⟩
 by_cases hT : T.Valid
 ·have HTV := tuck hT
  rw [tr_of hT] at HV
  clear hT
  have HPE := tuck (HPOST.out T)
  refine (HV.out _ (below1 _ _)).mono ?_
  rintro e w3 ⟨rfl, hb⟩
  have hbb := bAfter (below1 w2 (.cells #[.int .i64 T.kind, .int .i64 T.num, .slice ta T.kids.length tc] 25)) hb
  have hvt := (VarAt.new w2 T.kind T.num (.slice ta T.kids.length tc)).below hb
  obtain ⟨zt, t0, t1, t2, -⟩ := hvt.facts
  have HY3 := tuck (HY0.out.below hbb)
  obtain ⟨zv, v0, v1, v2, vf⟩ := HY3.out.facts
  have HO3 := tuck (HO.out.of_below hbb)
  have HR3 := tuck (HR.out.below hbb)
  have HSO3 := tuck (HSO.out.below (fun x hx => (HGB.out x hx).2) hbb)
  have hz3 : w2.heap.size ≤ w3.heap.size := hbb.size
  clear hb hbb hvt
  go_wp2_with fail
  refine bodyPost_ret (v := .agg #[.int .i64 T.kind, .int .i64 T.num, .slice ta T.kids.length tc]) (by simp [results, Tryz.results91, go_sem, *]) rfl (HPE.out _ _ G p2 ?_ HND.out (fun x hx => ?_) HTV.out ?_ ?_ ?_)
  ·exact HSO3.out.set3 (fun h => by have := (HGB.out _ h).1; omega) _ _ _ _ _ _
  ·rw [size_set3]
   have := HGB.out x hx
   omega
  ·have := HP2.out
   omega
  ·exact ((HR3.out.far (show w.heap.size ≠ g by omega)).far (show w.heap.size ≠ g by omega)).far (show w.heap.size ≠ g by omega)
  ·exact ((HO3.out.setCell (Or.inr (Nat.le_refl _)) _).setCell (Or.inr (Nat.le_refl _)) _).setCell (Or.inr (Nat.le_refl _)) _
 ·rw [tr_not hT] at HV
  clear hT
  have HPE := tuck (HPOST.out (numT 0))
  refine (HV.out _ (below1 _ _)).mono ?_
  rintro e w3 ⟨rfl, hb⟩
  have hbb := bAfter (below1 w2 (.cells #[.int .i64 T.kind, .int .i64 T.num, .slice ta T.kids.length tc] 25)) hb
  have HY3 := tuck (HY0.out.below hbb)
  have HO3 := tuck (HO.out.of_below hbb)
  have HR3 := tuck (HR.out.below hbb)
  clear hb hbb
  go_wp2_with fail
  refine (leafS_any 7 0 _).mono ?_
  rintro e w4 ⟨rfl, hb⟩
  replace HY3 := tuck (HY3.out.below hb)
  replace HO3 := tuck (HO3.out.of_below hb)
  replace HR3 := tuck (HR3.out.below hb)
  obtain ⟨zv, v0, v1, v2, vf⟩ := HY3.out.facts
  clear hb
  go_wp2_with fail
  refine bodyPost_ret (v := .agg #[.int .i64 7, .int .i64 0, .slice none 0 0]) (by simp [results, Tryz.results91, go_sem, *]) rfl (HPE.out _ _ [] p2 ?_ List.nodup_nil (fun x hx => by cases hx) (valid_numT (by omega)) ?_ ?_ ?_)
  ·exact SlOwn.nil _ _ _
  ·have := HP2.out
   omega
  ·exact ((HR3.out.far (show w.heap.size ≠ g by omega)).far (show w.heap.size ≠ g by omega)).far (show w.heap.size ≠ g by omega)
  ·exact ((HO3.out.setCell (Or.inr (Nat.le_refl _)) _).setCell (Or.inr (Nat.le_refl _)) _).setCell (Or.inr (Nat.le_refl _)) _
end Go.Proofs.YtlnpebdmekccaaaGreat
namespace Go.Proofs.YtlnpebdmekccaaaGreat
open Go.RowKit
set_option maxRecDepth 100000 in
theorem devNode_any (t : Tm) (hr : t.rootOk) (l : List Tm) (hl : l.length = t.kids.length) (hk : ∀ i (hi : i < l.length), l[i].Valid) (hd : t.redex ≠ 0 → (Tm.mk t.kind t.num l).redex = t.redex) (w : World) (X : Nat → Prop) (hX : ∀ i, X i → i < w.heap.size) (s v : Value) (hs : SlIn w 0 t.kids s) (hv : SlX w X l v) :
  Calls Tryz.prog 32 #[.agg #[.int .i64 t.kind, .int .i64 t.num, s], v] w (ContrPost X w (devC t l).Valid (devC t l)) := by
 obtain ⟨a, c, rfl⟩ := hs.form
 obtain ⟨va, vc, rfl⟩ := hv.form
 have hb2 := below2 w (.cells #[.int .i64 t.kind, .int .i64 t.num, .slice a t.kids.length c] 25) (.cells #[.int .i64 0, .int .i64 0, .slice none 0 0] 25)
 have hb3 := bAfter hb2 (below1 ((w.alloc (.cells #[.int .i64 t.kind, .int .i64 t.num, .slice a t.kids.length c] 25)).alloc (.cells #[.int .i64 0, .int .i64 0, .slice none 0 0] 25)) (.cells #[.int .i64 t.kind, .int .i64 t.num, .slice va l.length vc] 25))
 have HV1 := tuck ((var_new1 w (.cells #[.int .i64 t.kind, .int .i64 t.num, .slice a t.kids.length c] 25) 0 0 (.slice none 0 0)).below (below1 _ (.cells #[.int .i64 t.kind, .int .i64 t.num, .slice va l.length vc] 25)))
 have HV2 := tuck (var_new2 w (.cells #[.int .i64 t.kind, .int .i64 t.num, .slice a t.kids.length c] 25) (.cells #[.int .i64 0, .int .i64 0, .slice none 0 0] 25) t.kind t.num (.slice va l.length vc))
 have HRED := tuck (redI_any t hr _ (.slice a t.kids.length c) (hs.below hb3))
 have HB3 := tuck hb3
 have HZ3 : Hid ((((w.alloc (.cells #[.int .i64 t.kind, .int .i64 t.num, .slice a t.kids.length c] 25)).alloc (.cells #[.int .i64 0, .int .i64 0, .slice none 0 0] 25)).alloc (.cells #[.int .i64 t.kind, .int .i64 t.num, .slice va l.length vc] 25)).heap.size = w.heap.size + 3) := tuck (by simp)
 have HVX := tuck hv
 have HPOST : Hid (∀ (c0 : Bool) (U : Tm) (a' : Option Addr) (c' : Nat) w', Below w.heap.size w w' → c0 = tr (devC t l).Valid → SlX w' X U.kids (.slice a' U.kids.length c') → ((devC t l).Valid → U = devC t l) → ContrPost X w (devC t l).Valid (devC t l) (.returned (.tuple #[.agg #[.int .i64 U.kind, .int .i64 U.num, .slice a' U.kids.length c'], .bool c0])) w') := tuck fun c0 U a' c' w' h1 h2 h3 h4 =>
  ⟨h1, U, _, by rw [h2], h3, h4⟩
 clear hb2 hb3
 by_cases h0 : t.redex = 0
 ·have hdc : devC t l = .mk t.kind t.num l := if_pos h0
  have HVAL : Hid (∀ w', Below w.heap.size w w' → Calls Tryz.prog 30 #[.agg #[.int .i64 t.kind, .int .i64 t.num, .slice va l.length vc]] w' (BoolPost w' (tr (devC t l).Valid))) := tuck fun w' h => by
   rw [hdc]
   exact validI_any (.mk t.kind t.num l) w' _ ⟨_, rfl, (hv.below h).sl⟩
  replace HPOST : Hid (∀ (c0 : Bool) w', Below w.heap.size w w' → c0 = tr (devC t l).Valid → SlX w' X l (.slice va l.length vc) → ContrPost X w (devC t l).Valid (devC t l) (.returned (.tuple #[.agg #[.int .i64 t.kind, .int .i64 t.num, .slice va l.length vc], .bool c0])) w') := tuck fun c0 w' h1 h2 h3 =>
   HPOST.out c0 (.mk t.kind t.num l) va vc w' h1 h2 h3 (fun _ => hdc.symm)
  rw [h0] at HRED
  generalize ContrPost X w (devC t l).Valid (devC t l) = post at *
  generalize tr (devC t l).Valid = cc at *
  clear hs hv hX hr hk hd h0 hdc hl
  go_enter Tryz.func32, Tryz.ntmps32
  go_wp2_with fail
  generalize ((w.alloc (.cells #[.int .i64 t.kind, .int .i64 t.num, .slice a t.kids.length c] 25)).alloc (.cells #[.int .i64 0, .int .i64 0, .slice none 0 0] 25)).alloc (.cells #[.int .i64 t.kind, .int .i64 t.num, .slice va l.length vc] 25) = W0 at *
  refine HRED.out.mono ?_
  rintro e w1 ⟨rfl, hb1⟩
  have HB1 := tuck (bAfter HB3.out hb1)
  have HN1 := tuck (HV2.out.below hb1)
  have HR1 := tuck (HV1.out.below hb1)
  have HLT : Hid (w.heap.size + 1 < w1.heap.size) := tuck (HV1.out.below hb1).facts.1
  clear hb1 HRED
  go_wp2_with fail
  have hgn : w.heap.size + 1 + 1 ≠ w.heap.size + 1 := by omega
  have HQ0 : Hid ((fun w' : World => w.heap.size + 1 + 1 < w'.heap.size ∧ w'.cell? ⟨w.heap.size + 1 + 1, 0, none⟩ = some (.int .i64 t.kind) ∧ w'.cell? ⟨w.heap.size + 1 + 1, 1, none⟩ = some (.int .i64 t.num) ∧ w'.cell? ⟨w.heap.size + 1 + 1, 2, none⟩ = some (.slice va l.length vc)) w1.drew) := tuck ⟨HN1.out.facts.1, HN1.out.facts.2.1, HN1.out.facts.2.2.1, HN1.out.facts.2.2.2.1⟩
  go_region_held3 (fun w' => w.heap.size + 1 + 1 < w'.heap.size ∧ w'.cell? ⟨w.heap.size + 1 + 1, 0, none⟩ = some (.int .i64 t.kind) ∧ w'.cell? ⟨w.heap.size + 1 + 1, 1, none⟩ = some (.int .i64 t.num) ∧ w'.cell? ⟨w.heap.size + 1 + 1, 2, none⟩ = some (.slice va l.length vc)) (first | exact HQ0.out | exact HK2.out | exact HK3.out) ((go_at_call 30; refine (HVAL.out _ (bAfter HB1.out (Below.refl _ _).drew)).mono ?_; rintro e w2 ⟨rfl, hb2⟩; have HB2 := tuck (bAfter HB1.out (bAfter (Below.refl _ _).drew hb2)); have HQN2 := tuck ((HN1.out.below (Below.refl _ _).drew).below hb2); have HQN3 := tuck (HQN2.out.far3 hgn 0 1 2 (.int .i64 t.kind) (.int .i64 t.num) (.slice va l.length vc)); have HK2 : Hid ((fun w' : World => w.heap.size + 1 + 1 < w'.heap.size ∧ w'.cell? ⟨w.heap.size + 1 + 1, 0, none⟩ = some (.int .i64 t.kind) ∧ w'.cell? ⟨w.heap.size + 1 + 1, 1, none⟩ = some (.int .i64 t.num) ∧ w'.cell? ⟨w.heap.size + 1 + 1, 2, none⟩ = some (.slice va l.length vc)) w2) := tuck ⟨HQN2.out.facts.1, HQN2.out.facts.2.1, HQN2.out.facts.2.2.1, HQN2.out.facts.2.2.2.1⟩; have HK3 := tuck (show (fun w' : World => w.heap.size + 1 + 1 < w'.heap.size ∧ w'.cell? ⟨w.heap.size + 1 + 1, 0, none⟩ = some (.int .i64 t.kind) ∧ w'.cell? ⟨w.heap.size + 1 + 1, 1, none⟩ = some (.int .i64 t.num) ∧ w'.cell? ⟨w.heap.size + 1 + 1, 2, none⟩ = some (.slice va l.length vc)) _ from ⟨HQN3.out.facts.1, HQN3.out.facts.2.1, HQN3.out.facts.2.2.1, HQN3.out.facts.2.2.2.1⟩); obtain ⟨zr, r0, r1, r2, rf⟩ := ((HR1.out.below (Below.refl _ _).drew).below hb2).facts; clear hb2))
  all_goals (try go_wp2_with fail)
  all_goals
   refine bodyPost_ret (v := .tuple #[.agg #[.int .i64 t.kind, .int .i64 t.num, .slice va l.length vc], .bool cc]) (by simp [results, Tryz.results32, go_sem, *]) rfl (HPOST.out _ _ ?_ rfl ?_)
   ·exact bSet3 HB2.out (Nat.le_succ _) _ _ _ _ _ _
   ·exact ((HVX.out.widen HB2.out (w.heap.size + 3)).set3 (Or.inr ⟨Nat.le_succ _, by omega⟩) _ _ _ _ _ _).narrow fun i h => Or.inl h
 ·have hne : (t.redex == 0) = false := by simpa using h0
  have hdr := hd h0
  have hdc : devC t l = (Tm.mk t.kind t.num l).contr := if_neg h0
  have hrn : (Tm.mk t.kind t.num l).rootOk := ⟨by show arity t.kind = l.length; rw [hl]; exact hr.1, hr.2⟩
  have HCON : Hid (∀ w', Below w.heap.size w w' → w.heap.size + 3 ≤ w'.heap.size → Calls Tryz.prog 61 #[.agg #[.int .i64 t.kind, .int .i64 t.num, .slice va l.length vc]] w' (ContrPost (With X w (w.heap.size + 3)) w' (devC t l).Valid (devC t l))) := tuck fun w' h hz => by
   have h2 := contract_any (.mk t.kind t.num l) hrn hk w' (With X w (w.heap.size + 3)) (fun i hi => by
    rcases hi with hi | hi
    ·have := hX i hi; have := h.size; omega
    ·omega) _ (hv.widen h _)
   rw [show ((Tm.mk t.kind t.num l).redex ≠ 0 ∧ (Tm.mk t.kind t.num l).contr.Valid) = (devC t l).Valid from propext (by rw [hdc]; exact ⟨fun h => h.2, fun h => ⟨by rw [hdr]; exact h0, h⟩⟩), ← hdc] at h2
   exact h2
  generalize t.redex = R at *
  generalize ContrPost X w (devC t l).Valid (devC t l) = post at *
  clear hs hv hX hr hk hd h0 hdc hdr hrn hl
  generalize (devC t l).Valid = V at *
  generalize devC t l = C at *
  go_enter Tryz.func32, Tryz.ntmps32
  go_wp2_with fail
  generalize ((w.alloc (.cells #[.int .i64 t.kind, .int .i64 t.num, .slice a t.kids.length c] 25)).alloc (.cells #[.int .i64 0, .int .i64 0, .slice none 0 0] 25)).alloc (.cells #[.int .i64 t.kind, .int .i64 t.num, .slice va l.length vc] 25) = W0 at *
  refine HRED.out.mono ?_
  rintro e w1 ⟨rfl, hb1⟩
  have HB1 := tuck (bAfter HB3.out hb1)
  obtain ⟨zn, n0, n1, n2, -⟩ := (HV2.out.below hb1).facts
  have HR1 := tuck (HV1.out.below hb1)
  have hlt : w.heap.size + 3 ≤ w1.heap.size := by omega
  clear hb1 HRED
  go_wp2_with fail
  refine (HCON.out _ HB1.out hlt).mono ?_
  rintro e w2 hp2
  obtain ⟨U, ua, uc, rfl, hb2, hs2, hU⟩ := hp2.open
  obtain ⟨zr, r0, r1, r2, rf⟩ := (HR1.out.below hb2).facts
  have HB2 := tuck (bAfter HB1.out hb2)
  have HS2 := tuck hs2
  have HU := tuck hU
  clear hp2 hb2 hs2 hU n0 n1 n2
  go_wp2_with fail
  refine bodyPost_ret (v := .tuple #[.agg #[.int .i64 U.kind, .int .i64 U.num, .slice ua U.kids.length uc], .bool (tr V)]) (by simp [results, Tryz.results32, go_sem, *]) rfl (HPOST.out _ U ua uc _ ?_ rfl ?_ HU.out)
  ·exact bSet3 HB2.out (Nat.le_succ _) _ _ _ _ _ _
  ·exact (HS2.out.set3 (Or.inr ⟨Nat.le_succ _, by omega⟩) _ _ _ _ _ _).narrow fun i h => Or.inl h
end Go.Proofs.YtlnpebdmekccaaaGreat
