/-
  DrawA, PlP, TeleC.
-/
import Derived.Test.YtihlbbbajaepoaaGreatR11
import Derived.Test.YtihlbbbajaepoaaGreatR13
import Derived.Test.YtihlbbbajaepoaaGreatR16
import Derived.Test.YtihlbbbajaepoaaGreatR19
import Derived.Test.YtihlbbbajaepoaaGreatR21
import Derived.Test.YtihlbbbajaepoaaGreatR33
namespace Go.Proofs.YtihlbbbajaepoaaGreat
mutual
def Tm.nodesFrom : Tm → List (Tm × Nat) → List (List (Tm × Nat) × Tm)
 | .mk k n l, p => (p, .mk k n l) :: kidsFrom (.mk k n l) l 0 p
def kidsFrom : Tm → List Tm → Nat → List (Tm × Nat) → List (List (Tm × Nat) × Tm)
 | _, [], _, _ => []
 | t0, t :: l, i, p => t.nodesFrom (p ++ [(t0, i)]) ++ kidsFrom t0 l (i + 1) p
end
mutual
theorem Tm.nodes_len : ∀ (t : Tm) (p : List (Tm × Nat)), (t.nodesFrom p).length = t.size
 | .mk k n l, p => by
  rw [Tm.nodesFrom, List.length_cons, kids_len (.mk k n l) l 0 p, Tm.size]
  omega
theorem kids_len : ∀ (t0 : Tm) (l : List Tm) (i : Nat) (p : List (Tm × Nat)), (kidsFrom t0 l i p).length = sizes l
 | _, [], _, _ => by rw [kidsFrom, sizes]; rfl
 | t0, t :: l, i, p => by
  rw [kidsFrom, List.length_append, t.nodes_len, kids_len t0 l (i + 1) p, sizes]
end
def NodeOk (H : Nat) (y : List (Tm × Nat) × Tm) : Prop := y.2.Valid ∧ InPath y.1 ∧ (∀ z ∈ y.1, z.1.Valid) ∧ hgts y.2.kids + y.1.length ≤ H
theorem NodeOk.kid {H : Nat} {p : List (Tm × Nat)} {t : Tm} (h : NodeOk H (p, t)) {i : Nat} (hi : i < t.kids.length) : NodeOk H (p ++ [(t, i)], kidT t i) := by
 obtain ⟨h1, h2, h3, h4⟩ := h
 refine ⟨h1.kidT hi, inPath_snoc h2 hi, fun z hz => ?_, ?_⟩
 ·rcases List.mem_append.1 hz with hz | hz
  ·exact h3 z hz
  ·rw [List.mem_singleton.1 hz]; exact h1
 ·have k1 := mem_hgts hi
  have k2 := (t.kids[i]).hgt_eq
  show hgts (kidT t i).kids + (p ++ [(t, i)]).length ≤ H
  rw [kidT_eq hi, List.length_append, List.length_singleton]
  show hgts t.kids[i].kids + (p.length + 1) ≤ H
  have h4' : hgts t.kids + p.length ≤ H := h4
  omega
mutual
theorem Tm.nodes_ok {H : Nat} : ∀ (t : Tm) (p : List (Tm × Nat)), NodeOk H (p, t) → ∀ y ∈ t.nodesFrom p, NodeOk H y
 | .mk k n l, p, h, y, hy => by
  rw [Tm.nodesFrom] at hy
  rcases List.mem_cons.1 hy with rfl | hy
  ·exact h
  ·exact kids_ok (.mk k n l) l 0 p (by simp [Tm.kids]) h y hy
theorem kids_ok {H : Nat} : ∀ (t0 : Tm) (l : List Tm) (i : Nat) (p : List (Tm × Nat)), t0.kids.drop i = l → NodeOk H (p, t0) → ∀ y ∈ kidsFrom t0 l i p, NodeOk H y
 | _, [], _, _, _, _, y, hy => by rw [kidsFrom] at hy; cases hy
 | t0, t :: l, i, p, hd, h, y, hy => by
  have hi : i < t0.kids.length := by
   rcases Nat.lt_or_ge i t0.kids.length with h | h
   ·exact h
   ·rw [List.drop_eq_nil_of_le h] at hd; cases hd
  have hdd := List.drop_eq_getElem_cons hi
  rw [hd] at hdd
  obtain ⟨ht, hl⟩ := List.cons.inj hdd
  have hk : kidT t0 i = t := by rw [kidT_eq hi, ht]
  rw [kidsFrom] at hy
  rcases List.mem_append.1 hy with hy | hy
  ·exact t.nodes_ok (p ++ [(t0, i)]) (hk ▸ h.kid hi) y hy
  ·exact kids_ok t0 l (i + 1) p hl.symm h y hy
end
theorem Tm.Valid.nodes {t : Tm} (h : t.Valid) : ∀ y ∈ t.nodesFrom [], NodeOk (hgts t.kids) y := t.nodes_ok [] ⟨h, trivial, fun z hz => (by cases hz), Nat.le_refl _⟩
theorem NodeOk.short {t : Tm} {y : List (Tm × Nat) × Tm} (h : NodeOk (hgts t.kids) y) (hv : t.Valid) : y.1.length ≤ 29 := by
 have h1 := h.2.2.2
 have h2 := t.hgt_eq
 have h3 := hv.2.1
 omega
end Go.Proofs.YtihlbbbajaepoaaGreat
namespace Go.Proofs.YtihlbbbajaepoaaGreat
open Go.RowKit
set_option maxRecDepth 100000 in
theorem checked_any (t : Tm) (w : World) (s : Value) (h : SlIn w 0 t.kids s) : Calls Tryz.prog 68 #[.agg #[.int .i64 t.kind, .int .i64 t.num, s]] w (ReplPost w t.Valid t) := by
 obtain ⟨ta, tc, rfl⟩ := h.form
 have HS := tuck h
 have hb2 := below2 w (.cells #[.int .i64 t.kind, .int .i64 t.num, .slice ta t.kids.length tc] 34) (.cells #[.int .i64 0, .int .i64 0, .slice none 0 0] 34)
 have HV0 := tuck ((VarAt.new w t.kind t.num (.slice ta t.kids.length tc)).below (below1 _ (.cells #[.int .i64 0, .int .i64 0, .slice none 0 0] 34)))
 have HV1 := tuck (var_new1 w (.cells #[.int .i64 t.kind, .int .i64 t.num, .slice ta t.kids.length tc] 34) 0 0 (.slice none 0 0))
 have hz2 : w.heap.size + 2 ≤ ((w.alloc (.cells #[.int .i64 t.kind, .int .i64 t.num, .slice ta t.kids.length tc] 34)).alloc (.cells #[.int .i64 0, .int .i64 0, .slice none 0 0] 34)).heap.size := by simp
 have HB2 := tuck hb2
 have HZ2 := tuck hz2
 have HNO : Hid (¬ t.Valid → ∀ w', Below w.heap.size w w' → ReplPost w t.Valid t (.returned (.tuple #[.agg #[.int .i64 0, .int .i64 0, .slice none 0 0], .bool false])) w') := tuck fun h w' hb => ReplPost.no h hb
 have HYES : Hid (t.Valid → ∀ w' s F, Below w.heap.size w w' → SlOwn w' t.kids s F → F.Nodup → (∀ g ∈ F, w.heap.size ≤ g ∧ g < w'.heap.size) → ReplPost w t.Valid t (.returned (.tuple #[.agg #[.int .i64 t.kind, .int .i64 t.num, s], .bool true])) w') := tuck fun h w' s F hb hs hn hF => ReplPost.yes h hb hs hn hF
 generalize ReplPost w t.Valid t = post at *
 clear hb2 hz2 h
 go_enter Tryz.func68, Tryz.ntmps68
 go_wp2_with fail
 generalize ((w.alloc (.cells #[.int .i64 t.kind, .int .i64 t.num, .slice ta t.kids.length tc] 34)).alloc (.cells #[.int .i64 0, .int .i64 0, .slice none 0 0] 34)) = W0 at *
 refine (validI_any t W0 _ ⟨_, rfl, HS.out.below HB2.out⟩).mono ?_
 rintro e w1 ⟨rfl, hb1⟩
 obtain ⟨z0, a0, a1, a2, -⟩ := (HV0.out.below hb1).facts
 have HVR := tuck (HV1.out.below hb1)
 have HZ := tuck (Nat.le_trans HZ2.out hb1.size)
 have HB := tuck (bAfter HB2.out hb1)
 clear hb1 HV0 HV1 HB2 HZ2
 by_cases hf : t.Valid
 rotate_left
 ·rw [tr_not hf]
  have HN := tuck (HNO.out hf)
  obtain ⟨z1, r0, r1, r2, rf⟩ := HVR.out.facts
  go_wp2_with fail
  refine bodyPost_ret (v := .tuple #[.agg #[.int .i64 0, .int .i64 0, .slice none 0 0], .bool false]) (by simp [results, Tryz.results68, go_sem, *]) rfl (HN.out _ ?_)
  first | exact bSet3 HB.out (Nat.le_succ _) _ _ _ _ _ _ | exact HB.out
 rw [tr_of hf]
 have HY := tuck (HYES.out hf)
 have hcl := cloneI_any t.kids t.kind t.num w1 _ (by have := (valid_bounds hf).1; omega) (HS.out.below HB.out)
 rw [Tm.eta] at hcl
 have HCL := tuck hcl
 clear hcl hf HNO HYES HS
 go_wp2_with fail
 refine HCL.out.mono ?_
 rintro e w2 ⟨hb2, v, rfl, s2, F, rfl, hs2, hn2, hF2⟩
 obtain ⟨sa, sc, rfl⟩ := hs2.form
 replace HVR := tuck (HVR.out.below hb2)
 replace HB := tuck (bAfter HB.out hb2)
 have HS2 := tuck hs2
 have HN2 := tuck hn2
 have HF2 := tuck hF2
 clear hb2 hs2 hn2 hF2 HCL z0 a0 a1 a2
 obtain ⟨z1, r0, r1, r2, rf⟩ := HVR.out.facts
 go_wp2_with fail
 refine bodyPost_ret (v := .tuple #[.agg #[.int .i64 t.kind, .int .i64 t.num, .slice sa t.kids.length sc], .bool true]) (by simp [results, Tryz.results68, go_sem, *]) rfl (HY.out _ _ F ?_ ?_ HN2.out ?_)
 ·exact bSet3 HB.out (Nat.le_succ _) _ _ _ _ _ _
 ·exact HS2.out.set3 (fun h => by have := (HF2.out _ h).1; have := HZ.out; omega) _ _ _ _ _ _
 ·intro g hg
  have := HF2.out g hg
  have := HB.out.size
  rw [size_set3]
  have := HZ.out
  omega
end Go.Proofs.YtihlbbbajaepoaaGreat
namespace Go.Proofs.YtihlbbbajaepoaaGreat
open Go.RowKit
theorem leafS_any (k n : Int) (w : World) : Calls Tryz.prog 103 #[.int .i64 k, .int .i64 n] w fun e w' => e = .returned (.agg #[.int .i64 k, .int .i64 n, .slice none 0 0]) ∧ Below w.heap.size w w' := by
 go_enter Tryz.func103, Tryz.ntmps103
 go_wp2
 refine bodyPost_ret (v := .agg #[.int .i64 k, .int .i64 n, .slice none 0 0]) (by simp [results, Tryz.results103, go_sem]) rfl ⟨rfl, below1 _ _⟩
def AnyPost (g : Nat) (a : Option Addr) (len cap p : Nat) (w : World) (e : Ending) (w' : World) : Prop :=
 ∃ (t : Tm) (s : Value) (F : List Nat) (p' : Nat), e = .returned (.agg #[.int .i64 t.kind, .int .i64 t.num, s]) ∧ SlOwn w' t.kids s F ∧ F.Nodup ∧ (∀ x ∈ F, w.heap.size ≤ x ∧ x < w'.heap.size) ∧ t.Valid ∧ p' ≤ p + 1876 ∧ Rd g a len cap p' w' ∧ Only g w w'
set_option maxRecDepth 100000 in
set_option maxHeartbeats 1600000 in
theorem lany_any {U : Nat → Int} {g b o len cap p : Nat} {a : Option Addr} (w : World) (hlen : len ≤ 2000) (hbg : 0 < len → b ≠ g) (hp : p ≤ 90000) (hrd : Rd g a len cap p w) (hby : Bytes U a b o len w) :
  Calls Tryz.prog 67 #[.pointer (some ⟨g, 0, none⟩)] w (AnyPost g a len cap p w) := by
 have hg := hrd.facts.1
 have HRD := tuck hrd
 have HBY := tuck hby
 have HPOST : Hid (∀ (t : Tm) (w' : World) (s : Value) (F : List Nat) (p' : Nat), SlOwn w' t.kids s F → F.Nodup → (∀ x ∈ F, w.heap.size ≤ x ∧ x < w'.heap.size) → t.Valid → p' ≤ p + 1876 → Rd g a len cap p' w' → Only g w w' → AnyPost g a len cap p w (.returned (.agg #[.int .i64 t.kind, .int .i64 t.num, s])) w') := fun t w' s F p' h1 h2 h3 h4 h5 h6 h7 => ⟨t, s, F, p', rfl, h1, h2, h3, h4, h5, h6, h7⟩
 generalize AnyPost g a len cap p w = post at *
 have HL1 : Hid (DInts (fun i => ([3, 4, 2, 3, 1] : List Int).getD i 0) (w.heap.size + 1) 0 5 ((w.alloc (.cells #[.int .i64 0, .int .i64 0, .slice none 0 0] 34)).alloc (.cells #[.int .i64 3, .int .i64 4, .int .i64 2, .int .i64 3, .int .i64 1] 3))) := by
  have := ints_new [3, 4, 2, 3, 1] (w.alloc (.cells #[.int .i64 0, .int .i64 0, .slice none 0 0] 34)) 3
  rwa [show (w.alloc (.cells #[.int .i64 0, .int .i64 0, .slice none 0 0] 34)).heap.size = w.heap.size + 1 by simp] at this
 have HO0 : Hid (Only g w ((w.alloc (.cells #[.int .i64 0, .int .i64 0, .slice none 0 0] 34)).alloc (.cells #[.int .i64 3, .int .i64 4, .int .i64 2, .int .i64 3, .int .i64 1] 3))) := ((Only.refl g w).alloc _).alloc _
 have HV0 : Hid (VarAt w.heap.size 0 0 (.slice none 0 0) ((w.alloc (.cells #[.int .i64 0, .int .i64 0, .slice none 0 0] 34)).alloc (.cells #[.int .i64 3, .int .i64 4, .int .i64 2, .int .i64 3, .int .i64 1] 3))) := (VarAt.new w 0 0 (.slice none 0 0)).below (below1 _ _)
 clear hrd hby
 go_enter Tryz.func67, Tryz.ntmps67
 go_wp2_with fail
 refine (num_any (N := fun i => ([3, 4, 2, 3, 1] : List Int).getD i 0) (o2 := 0) (n := 5) _ hlen (by omega) (by omega) (by omega) (HRD.out.below (below2 _ _ _)) (HBY.out.below (below2 _ _ _)) hbg HL1.out (by omega)).mono ?_
 rintro e w1 ⟨i1, hi1, he, hrd, ho⟩
 obtain ⟨d, hd⟩ : ∃ d : Int, d = ([3, 4, 2, 3, 1] : List Int).getD i1 0 := ⟨_, rfl⟩
 obtain rfl : e = .returned (.int .i64 d) := by rw [hd]; exact he
 clear he
 have hk := (by decide : ∀ i < 5, 1 ≤ ([3, 4, 2, 3, 1] : List Int).getD i 0 ∧ ([3, 4, 2, 3, 1] : List Int).getD i 0 ≤ 4) i1 hi1
 rw [← hd] at hk
 clear hd
 obtain ⟨hk0, hk1⟩ := hk
 have HY0 := tuck (HV0.out.only ho (by omega))
 have hzr : w.heap.size < w1.heap.size := HY0.out.facts.1
 have HO := tuck (HO0.out.trans ho)
 have HD := tuck (ldraw_any hlen hbg 4 (by omega) d (p + 1) w1 (by omega) (by omega) (by omega) hrd ((HBY.out.below (below2 w _ _)).only ho hbg))
 clear hrd ho HO0 HV0 HL1
 go_wp2_with fail
 refine HD.out.mono ?_
 rintro e w2 ⟨T, ts, G, p2, rfl, hso, hnd, hF, hsz, hp2, hrd, ho⟩
 obtain ⟨ta, tc, rfl⟩ := hso.form
 replace HY0 := tuck (HY0.out.only ho (by omega))
 have hz1 : w.heap.size ≤ w1.heap.size := HO.out.size
 have HGB : Hid (∀ x ∈ G, w1.heap.size ≤ x ∧ x < w2.heap.size) := tuck hF
 have hz2 : w1.heap.size ≤ w2.heap.size := ho.size
 replace HO := tuck (HO.out.trans ho)
 have HR := tuck hrd
 have HP2 : Hid (p2 ≤ p + 1 + 3 * 625) := tuck hp2
 have HSO := tuck hso
 have HND := tuck hnd
 clear hso hnd hF hsz hp2 hrd ho HD
 go_wp2_with fail
 have HV : Hid (∀ W : World, Below w2.heap.size w2 W → Calls Tryz.prog 46 #[.agg #[.int .i64 T.kind, .int .i64 T.num, .slice ta T.kids.length tc]] W (BoolPost W (tr T.Valid))) := fun W h => validS_any T W _ ⟨_, rfl, (HSO.out.sl (B := 0) (fun _ _ => Nat.zero_le _)).below h⟩
 by_cases hT : T.Valid
 ·have HTV := tuck hT
  rw [tr_of hT] at HV
  clear hT
  have HPE := tuck (HPOST.out T)
  refine (HV.out _ (below1 _ _)).mono ?_
  rintro e w3 ⟨rfl, hb⟩
  have hbb := bAfter (below1 w2 (.cells #[.int .i64 T.kind, .int .i64 T.num, .slice ta T.kids.length tc] 34)) hb
  have hvt := (VarAt.new w2 T.kind T.num (.slice ta T.kids.length tc)).below hb
  obtain ⟨zt, t0, t1, t2, -⟩ := hvt.facts
  have HY3 := tuck (HY0.out.below hbb)
  obtain ⟨zv, v0, v1, v2, vf⟩ := HY3.out.facts
  have HO3 := tuck (HO.out.of_below hbb)
  have HR3 := tuck (HR.out.below hbb)
  have HSO3 := tuck (HSO.out.below (fun x hx => (HGB.out x hx).2) hbb)
  have hz3 : w2.heap.size ≤ w3.heap.size := hbb.size
  clear hb hbb hvt
  go_wp2_with fail
  refine bodyPost_ret (v := .agg #[.int .i64 T.kind, .int .i64 T.num, .slice ta T.kids.length tc]) (by simp [results, Tryz.results67, go_sem, *]) rfl (HPE.out _ _ G p2 ?_ HND.out (fun x hx => ?_) HTV.out ?_ ?_ ?_)
  ·exact HSO3.out.set3 (fun h => by have := (HGB.out _ h).1; omega) _ _ _ _ _ _
  ·rw [size_set3]
   have := HGB.out x hx
   omega
  ·have := HP2.out
   omega
  ·exact ((HR3.out.far (show w.heap.size ≠ g by omega)).far (show w.heap.size ≠ g by omega)).far (show w.heap.size ≠ g by omega)
  ·exact ((HO3.out.setCell (Or.inr (Nat.le_refl _)) _).setCell (Or.inr (Nat.le_refl _)) _).setCell (Or.inr (Nat.le_refl _)) _
 ·rw [tr_not hT] at HV
  clear hT
  have HPE := tuck (HPOST.out (numT 0))
  refine (HV.out _ (below1 _ _)).mono ?_
  rintro e w3 ⟨rfl, hb⟩
  have hbb := bAfter (below1 w2 (.cells #[.int .i64 T.kind, .int .i64 T.num, .slice ta T.kids.length tc] 34)) hb
  have HY3 := tuck (HY0.out.below hbb)
  have HO3 := tuck (HO.out.of_below hbb)
  have HR3 := tuck (HR.out.below hbb)
  clear hb hbb
  go_wp2_with fail
  refine (leafS_any 7 0 _).mono ?_
  rintro e w4 ⟨rfl, hb⟩
  replace HY3 := tuck (HY3.out.below hb)
  replace HO3 := tuck (HO3.out.of_below hb)
  replace HR3 := tuck (HR3.out.below hb)
  obtain ⟨zv, v0, v1, v2, vf⟩ := HY3.out.facts
  clear hb
  go_wp2_with fail
  refine bodyPost_ret (v := .agg #[.int .i64 7, .int .i64 0, .slice none 0 0]) (by simp [results, Tryz.results67, go_sem, *]) rfl (HPE.out _ _ [] p2 ?_ List.nodup_nil (fun x hx => by cases hx) (valid_numT (by omega)) ?_ ?_ ?_)
  ·exact SlOwn.nil _ _ _
  ·have := HP2.out
   omega
  ·exact ((HR3.out.far (show w.heap.size ≠ g by omega)).far (show w.heap.size ≠ g by omega)).far (show w.heap.size ≠ g by omega)
  ·exact ((HO3.out.setCell (Or.inr (Nat.le_refl _)) _).setCell (Or.inr (Nat.le_refl _)) _).setCell (Or.inr (Nat.le_refl _)) _
end Go.Proofs.YtihlbbbajaepoaaGreat
