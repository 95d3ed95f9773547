/-
  DrawsU, PlAD.
-/
import Derived.Test.YtihlbbbajaepoaaGreatQ29
import Derived.Test.YtihlbbbajaepoaaGreatQ39
import Derived.Test.YtihlbbbajaepoaaGreatQ48
namespace Go.Proofs.YtihlbbbajaepoaaGreat
theorem way_congr {t : Tm} {N N' : Int → Int} : ∀ i : Nat, (∀ j : Nat, j < i → N' j = N j) → way t N' i = way t N i
 | 0, _ => rfl
 | i + 1, h => by
  rw [way, way, way_congr i (fun j hj => h j (by omega)), h i (by omega)]
theorem way_kid {t x : Tm} {p : List (Tm × Nat)} {i : Nat} (h : way t (ixAt p) p.length = some (p, x)) (hi : i < x.kids.length) : way t (ixAt (p ++ [(x, i)])) (p ++ [(x, i)]).length = some (p ++ [(x, i)], kidT x i) := by
 rw [List.length_append, List.length_singleton]
 have h1 : way t (ixAt (p ++ [(x, i)])) p.length = some (p, x) := by
  rw [← h]
  exact way_congr _ fun j hj => by
   rw [ixAt_eq _ _ (by rw [List.length_append, List.length_singleton]; omega), ixAt_eq _ _ hj, List.getElem_append_left hj]
 have h2 : ixAt (p ++ [(x, i)]) (p.length : Int) = (i : Int) := by
  rw [ixAt_eq _ _ (by simp), List.getElem_append_right (Nat.le_refl _)]
  simp
 have h3 := way_yes h1 (by rw [h2]; exact ⟨by omega, by omega⟩)
 rw [h3, h2]
 simp
mutual
theorem Tm.nodes_way (t0 : Tm) : ∀ (t : Tm) (p : List (Tm × Nat)), way t0 (ixAt p) p.length = some (p, t) → ∀ y ∈ t.nodesFrom p, way t0 (ixAt y.1) y.1.length = some y
 | .mk k n l, p, h, y, hy => by
  rw [Tm.nodesFrom] at hy
  rcases List.mem_cons.1 hy with rfl | hy
  ·exact h
  ·exact kids_way t0 (.mk k n l) l 0 p (by simp [Tm.kids]) h y hy
theorem kids_way (t0 : Tm) : ∀ (x : Tm) (l : List Tm) (i : Nat) (p : List (Tm × Nat)), x.kids.drop i = l → way t0 (ixAt p) p.length = some (p, x) → ∀ y ∈ kidsFrom x l i p, way t0 (ixAt y.1) y.1.length = some y
 | _, [], _, _, _, _, y, hy => by rw [kidsFrom] at hy; cases hy
 | x, t :: l, i, p, hd, h, y, hy => by
  have hi : i < x.kids.length := by
   rcases Nat.lt_or_ge i x.kids.length with h | h
   ·exact h
   ·rw [List.drop_eq_nil_of_le h] at hd; cases hd
  have hdd := List.drop_eq_getElem_cons hi
  rw [hd] at hdd
  obtain ⟨ht, hl⟩ := List.cons.inj hdd
  have hk : kidT x i = t := by rw [kidT_eq hi, ht]
  rw [kidsFrom] at hy
  rcases List.mem_append.1 hy with hy | hy
  ·exact Tm.nodes_way t0 t (p ++ [(x, i)]) (by rw [← hk]; exact way_kid h hi) y hy
  ·exact kids_way t0 x l (i + 1) p hl.symm h y hy
end
theorem nodes_place {t : Tm} (hv : t.Valid) {y : List (Tm × Nat) × Tm} (hy : y ∈ t.nodesFrom []) : IsPlace t (ixAt y.1) y.1.length ∧ wayT t (ixAt y.1) y.1.length = y.2 := by
 have h := Tm.nodes_way t t [] rfl y hy
 obtain ⟨h1, -, h3⟩ := is_place hv h
 exact ⟨h1, h3⟩
def sameN (N : Int → Int) (n : Nat) (N' : Int → Int) (n' : Nat) : Prop := n = n' ∧ ∀ j : Nat, j < n → N j = N' j
mutual
theorem Tm.plc_reds : ∀ (t : Tm) (p : List (Tm × Nat)), ((plcOf true (t.nodesFrom p)).length : Int) = t.reds
 | .mk k n l, p => by
  have h := kids_plc (.mk k n l) l 0 p
  rw [Tm.nodesFrom, Tm.reds, ← h]
  by_cases hr : (Tm.mk k n l).redex = 0
  ·rw [if_pos hr]
   simp [plcOf, hr]
  ·rw [if_neg hr]
   simp [plcOf, hr]
   omega
theorem kids_plc : ∀ (t0 : Tm) (l : List Tm) (i : Nat) (p : List (Tm × Nat)), ((plcOf true (kidsFrom t0 l i p)).length : Int) = redsL l
 | _, [], _, _ => by rw [kidsFrom, redsL]; rfl
 | t0, t :: l, i, p => by
  rw [kidsFrom, plcOf_app, List.length_append, redsL, ← t.plc_reds (p ++ [(t0, i)]), ← kids_plc t0 l (i + 1) p]
  push_cast
  rfl
end
theorem placesP_reds (t : Tm) : ((placesP true t).length : Int) = redsOf t := by
 unfold placesP redsOf
 by_cases hv : t.Valid
 ·rw [if_pos hv, if_pos hv, t.plc_reds]
 ·rw [if_neg hv, if_neg hv]
  rfl
theorem redexP_at {t : Tm} {j : Nat} (h : j < (placesP true t).length) : IsPlace t (placesP true t)[j].1 (placesP true t)[j].2 ∧ (wayT t (placesP true t)[j].1 (placesP true t)[j].2).redex ≠ 0 := by
 have hv : t.Valid := Classical.byContradiction fun hn => by
  unfold placesP at h
  rw [if_neg hn] at h
  simp at h
 have e : placesP true t = plcOf true (t.nodesFrom []) := by
  unfold placesP
  rw [if_pos hv]
 have hm := List.getElem_mem h
 generalize (placesP true t)[j] = x at *
 rw [e] at hm
 simp only [plcOf, List.mem_map, List.mem_filter] at hm
 obtain ⟨y, ⟨hy, hr⟩, rfl⟩ := hm
 obtain ⟨h1, h2⟩ := nodes_place hv hy
 refine ⟨h1, ?_⟩
 rw [h2]
 simpa using hr
end Go.Proofs.YtihlbbbajaepoaaGreat
namespace Go.Proofs.YtihlbbbajaepoaaGreat
open Go.RowKit
theorem Only.ofDrewR {g : Nat} {w w' : World} (h : Only g w.drew w') : Only g w w' := ⟨h.os, h.tape, h.output, h.size, h.block⟩
theorem Rd.drewR {g : Nat} {a : Option Addr} {len cap p : Nat} {w : World} (h : Rd g a len cap p w) : Rd g a len cap p w.drew := h
theorem Bytes.drewR {U : Nat → Int} {a : Option Addr} {b o len : Nat} {w : World} (h : Bytes U a b o len w) : Bytes U a b o len w.drew := h
theorem VarAt.drewR {g : Nat} {k n : Int} {s : Value} {w : World} (h : VarAt g k n s w) : VarAt g k n s w.drew := h
def TmPostR (w : World) (e : Ending) (w' : World) : Prop := ∃ (T : Tm) (v : Value), e = .returned v ∧ TmIn w' w.heap.size T v ∧ T.size ≤ 1000 ∧ Below w.heap.size w w'
set_option maxRecDepth 100000 in
set_option maxHeartbeats 1600000 in
theorem dRedexOf_any {U : Nat → Int} {a : Option Addr} {b o len cap : Nat} (w : World) (hlen : len ≤ 140737488355328) (hcap : len ≤ cap) (hby : Bytes U a b o len w) : Calls Tryz.prog 80 #[.slice a len cap] w (TmPostR w) := by
 have HP : Hid (∀ T v w', TmIn w' w.heap.size T v → T.size ≤ 1000 → Below w.heap.size w w' → TmPostR w (.returned v) w') := fun T v w' h1 h2 h3 => ⟨T, v, rfl, h1, h2, h3⟩
 generalize TmPostR w = post at *
 have hz0 : (w.alloc (.cells #[.int .i64 0, .int .i64 0, .slice none 0 0] 34)).heap.size = w.heap.size + 1 := by simp
 have hb0 : Below w.heap.size w (w.alloc (.cells #[.int .i64 0, .int .i64 0, .slice none 0 0] 34)) := below1 _ _
 have HO := tuck (open_any (w.alloc (.cells #[.int .i64 0, .int .i64 0, .slice none 0 0] 34)) hlen hcap (hby.below hb0))
 have hv0 : VarAt w.heap.size 0 0 (.slice none 0 0) (w.alloc (.cells #[.int .i64 0, .int .i64 0, .slice none 0 0] 34)) := VarAt.new w 0 0 (.slice none 0 0)
 clear hby
 go_enter Tryz.func80, Tryz.ntmps80
 go_wp2_with fail
 refine HO.out.mono ?_
 rintro e w1 ⟨a', len', cap', he, hl, hbl, hrd, hby, hb1, hz⟩
 generalize w.alloc (.cells #[.int .i64 0, .int .i64 0, .slice none 0 0] 34) = W0 at *
 have hgz : w.heap.size < W0.heap.size := by omega
 have HB := tuck (bAfter hb0 hb1)
 have HV := tuck (hv0.below hb1)
 clear hb1
 generalize W0.heap.size = g at *
 subst he
 subst hz0
 have HBW : Hid (0 < len' → b ≠ w.heap.size + 1) := tuck (fun h => Nat.ne_of_lt (hbl h))
 have HRD := tuck hrd
 have HBY := tuck hby
 clear hrd hby HO hbl hv0 hb0
 have hne : w.heap.size ≠ w.heap.size + 1 := by omega
 go_wp2_with fail
 refine (l3draw_any _ hl HBW.out (by omega) HRD.out HBY.out).mono ?_
 rintro e w3 ⟨t, s, p', rfl, hsl, hv, hp', hrd, ho⟩
 obtain ⟨sa, sc, rfl⟩ := hsl.form
 have hsz : sizes t.kids ≤ 900 := by have := hv.2.2; have := t.size_eq; omega
 have HIN := tuck (hsl.mono (Nat.zero_le _))
 replace HB := tuck (Only.below HB.out ho (by omega) HB.out.size)
 replace HBY := tuck (HBY.out.only ho HBW.out)
 replace HV := tuck (HV.out.only ho hne)
 replace HRD := tuck hrd
 clear ho hrd hsl hv
 go_wp2_with fail
 refine (lmut_any t _ _ hl HBW.out (by omega) hsz HRD.out HBY.out ⟨_, rfl, HIN.out⟩).mono ?_
 rintro e w4 ⟨T, v, p2, rfl, ⟨s4, rfl, hin⟩, hsz2, -, -, ho⟩
 obtain ⟨sa4, sc4, rfl⟩ := hin.form
 have hz3 : w.heap.size < w3.heap.size := (HV.out.facts).1
 have HIN4 := tuck hin
 replace HB := tuck (Only.below HB.out ho (by omega) HB.out.size)
 replace HV := tuck (HV.out.only ho hne)
 clear ho hin
 obtain ⟨zv, v0, v1, v2, vf⟩ := HV.out.facts
 go_wp2_with fail
 refine bodyPost_ret (v := .agg #[.int .i64 T.kind, .int .i64 T.num, .slice sa4 T.kids.length sc4]) (by simp [results, Tryz.results80, go_sem, *]) rfl (HP.out T _ _ ⟨_, rfl, (HIN4.out.set3 hz3).mono (Nat.le_of_lt hz3)⟩ hsz2 (bSet3 HB.out (Nat.le_refl _) _ _ _ _ _ _))
end Go.Proofs.YtihlbbbajaepoaaGreat
