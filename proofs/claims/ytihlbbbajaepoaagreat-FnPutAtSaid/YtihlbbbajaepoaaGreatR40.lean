/-
  PlH.
-/
import Derived.Test.YtihlbbbajaepoaaGreatR08
import Derived.Test.YtihlbbbajaepoaaGreatR12
import Derived.Test.YtihlbbbajaepoaaGreatR22
import Derived.Test.YtihlbbbajaepoaaGreatR26
import Derived.Test.YtihlbbbajaepoaaGreatR27
import Derived.Test.YtihlbbbajaepoaaGreatR31
import Derived.Test.YtihlbbbajaepoaaGreatR34
import Derived.ChangeAlike
import Derived.Deep.DeepCutAuto
import Derived.RegionTactic
namespace Go.Proofs.YtihlbbbajaepoaaGreat
open Go.RowKit
def PutOk (t : Tm) (N : Int → Int) (len : Nat) (u : Tm) : Prop := IsPlace t N len ∧ (around (wayP t N len) u).Valid
set_option maxRecDepth 100000 in
set_option maxHeartbeats 1600000 in
theorem putAtS_any (t : Tm) (N : Int → Int) (len : Nat) (hlen : len ≤ 1048576) (u : Tm) (w : World) (vt vp vu : Value) (ht : TmIn w 0 t vt) (hp : IntsC w 0 N len vp) (hu : TmIn w 0 u vu) :
  Calls Tryz.prog 29 #[vt, vp, vu] w (TlRes w (PutOk t N len u) (around (wayP t N len) u)) := by
 obtain ⟨s, rfl, hs⟩ := ht
 obtain ⟨a, c, rfl⟩ := hs.form
 obtain ⟨us, rfl, hus⟩ := hu
 obtain ⟨ua, uc, rfl⟩ := hus.form
 obtain ⟨pa, pc, rfl⟩ := hp.form
 have HAT := tuck (fun W (h1 : SlIn W 0 t.kids (.slice a t.kids.length c)) (h2 : IntsC W 0 N len (.slice pa len pc)) => termAtS_any t N len hlen W _ _ ⟨_, rfl, h1⟩ h2.ints)
 have HVU := tuck (fun W (h1 : SlIn W 0 u.kids (.slice ua u.kids.length uc)) => validS_any u W _ ⟨_, rfl, h1⟩)
 have HPUT : Hid (IsPlace t N len → u.Valid → ∀ W, SlIn W 0 t.kids (.slice a t.kids.length c) → IntsC W 0 N len (.slice pa len pc) → SlIn W 0 u.kids (.slice ua u.kids.length uc) → Calls Tryz.prog 71 #[.agg #[.int .i64 t.kind, .int .i64 t.num, .slice a t.kids.length c], .slice pa len pc, .agg #[.int .i64 u.kind, .int .i64 u.num, .slice ua u.kids.length uc]] W (TlPost W (around (wayP t N len) u))) := tuck fun hpl huv W h1 h2 h3 =>
  l8put_any u (by have := (valid_bounds huv).1; omega) (wayP t N len) t (wayT t N len) N W _ _ _ hpl.ok.chain hpl.1 hpl.ok.ix (by have := (hpl.ok.short hpl.1).2; omega) h1 (by rw [hpl.ok.len]; exact h2) h3
 have HNO : Hid (¬ PutOk t N len u → ∀ w', Below w.heap.size w w' → TlRes w (PutOk t N len u) (around (wayP t N len) u) (.returned (.tuple #[.agg #[.int .i64 0, .int .i64 0, .slice none 0 0], .bool false])) w') := tuck fun h w' hb => TlRes.no h hb
 have HYES : Hid (PutOk t N len u → ∀ w' a c, Below w.heap.size w w' → SlIn w' w.heap.size (around (wayP t N len) u).kids (.slice a (around (wayP t N len) u).kids.length c) → TlRes w (PutOk t N len u) (around (wayP t N len) u) (.returned (.tuple #[.agg #[.int .i64 (around (wayP t N len) u).kind, .int .i64 (around (wayP t N len) u).num, .slice a (around (wayP t N len) u).kids.length c], .bool true])) w') := tuck fun h w' a c hb hs => TlRes.yes h hb hs
 generalize TlRes w (PutOk t N len u) (around (wayP t N len) u) = post at *
 have HS := tuck hs
 have HP := tuck hp
 have HU := tuck hus
 have HBT := tuck (((VarAt.new w t.kind t.num (.slice a t.kids.length c)).below (below1 _ (.cells #[.int .i64 u.kind, .int .i64 u.num, .slice ua u.kids.length uc] 34))).below (below1 _ (.cells #[.int .i64 0, .int .i64 0, .slice none 0 0] 34)))
 have HBU := tuck ((var_new1 w (.cells #[.int .i64 t.kind, .int .i64 t.num, .slice a t.kids.length c] 34) u.kind u.num (.slice ua u.kids.length uc)).below (below1 _ (.cells #[.int .i64 0, .int .i64 0, .slice none 0 0] 34)))
 have HBR := tuck (var_new2 w (.cells #[.int .i64 t.kind, .int .i64 t.num, .slice a t.kids.length c] 34) (.cells #[.int .i64 u.kind, .int .i64 u.num, .slice ua u.kids.length uc] 34) 0 0 (.slice none 0 0))
 have HB0 := tuck (below3 w (.cells #[.int .i64 t.kind, .int .i64 t.num, .slice a t.kids.length c] 34) (.cells #[.int .i64 u.kind, .int .i64 u.num, .slice ua u.kids.length uc] 34) (.cells #[.int .i64 0, .int .i64 0, .slice none 0 0] 34))
 clear hs hp hus
 obtain ⟨z, d0, d1, d2, df⟩ := HBT.out.facts
 go_enter Tryz.func29, Tryz.ntmps29
 go_wp2_with fail
 generalize ((w.alloc (.cells #[.int .i64 t.kind, .int .i64 t.num, .slice a t.kids.length c] 34)).alloc (.cells #[.int .i64 u.kind, .int .i64 u.num, .slice ua u.kids.length uc] 34)).alloc (.cells #[.int .i64 0, .int .i64 0, .slice none 0 0] 34) = W0 at *
 refine (HAT.out W0 (HS.out.below HB0.out) (HP.out.below HB0.out)).mono ?_
 rintro e w1 ⟨hb1, ya, yc, rfl, -⟩
 have HB1 := tuck (bAfter HB0.out hb1)
 have HT1 := tuck (HBT.out.below hb1)
 have HU1 := tuck (HBU.out.below hb1)
 have HR1 := tuck (HBR.out.below hb1)
 clear z d0 d1 d2 df hb1 HAT HBT HBU HBR HB0
 by_cases hpl : IsPlace t N len
 rotate_left
 ·rw [tr_not hpl]
  generalize orZero (IsPlace t N len) (wayT t N len) = R at *
  have hbx := below1 w1 (.cells #[.int .i64 R.kind, .int .i64 R.num, .slice ya R.kids.length yc] 34)
  have HB2 := tuck (bAfter HB1.out hbx)
  obtain ⟨z1, r0, r1, r2, rf⟩ := (HR1.out.below hbx).facts
  clear hbx
  go_wp2_with fail
  refine bodyPost_ret (v := .tuple #[.agg #[.int .i64 0, .int .i64 0, .slice none 0 0], .bool false]) (by simp [results, Tryz.results29, go_sem, *]) rfl (HNO.out (fun h => hpl h.1) _ ?_)
  exact bSet3 HB2.out (by omega) _ _ _ _ _ _
 rw [tr_of hpl]
 generalize orZero (IsPlace t N len) (wayT t N len) = R at *
 have hbx := below1 w1 (.cells #[.int .i64 R.kind, .int .i64 R.num, .slice ya R.kids.length yc] 34)
 have HB2 := tuck (bAfter HB1.out hbx)
 have HT2 := tuck (HT1.out.below hbx)
 have HU2 := tuck (HU1.out.below hbx)
 have HR2 := tuck (HR1.out.below hbx)
 obtain ⟨z, d0, d1, d2, df⟩ := HU2.out.facts
 clear hbx HB1 HT1 HU1 HR1
 go_wp2_with fail
 generalize w1.alloc (.cells #[.int .i64 R.kind, .int .i64 R.num, .slice ya R.kids.length yc] 34) = W2 at *
 refine (HVU.out _ (HU.out.below HB2.out)).mono ?_
 rintro e w3 ⟨rfl, hb3⟩
 have HB3 := tuck (bAfter HB2.out hb3)
 have HT3 := tuck (HT2.out.below hb3)
 have HU3 := tuck (HU2.out.below hb3)
 have HR3 := tuck (HR2.out.below hb3)
 clear z d0 d1 d2 df hb3 HB2 HT2 HU2 HR2 HVU
 by_cases huv : u.Valid
 rotate_left
 ·rw [tr_not huv]
  obtain ⟨z1, r0, r1, r2, rf⟩ := HR3.out.facts
  go_wp2_with fail
  refine bodyPost_ret (v := .tuple #[.agg #[.int .i64 0, .int .i64 0, .slice none 0 0], .bool false]) (by simp [results, Tryz.results29, go_sem, *]) rfl (HNO.out (fun h => huv (around_valid _ _ hpl.ok.inn h.2)) _ ?_)
  exact bSet3 HB3.out (by omega) _ _ _ _ _ _
 rw [tr_of huv]
 have HPU := tuck (HPUT.out hpl huv)
 obtain ⟨z, d0, d1, d2, df⟩ := HU3.out.facts
 obtain ⟨z', e0, e1, e2, ef⟩ := HT3.out.facts
 clear HPUT
 go_wp2_with fail
 refine (HPU.out _ (HS.out.below HB3.out) (HP.out.below HB3.out) (HU.out.below HB3.out)).mono ?_
 rintro e w4 ⟨hb4, ka, kc, rfl, hk⟩
 have HB4 := tuck (bAfter HB3.out hb4)
 have HR4 := tuck (HR3.out.below hb4)
 have HZ := tuck (show w.heap.size + 1 + 1 < _ from HR3.out.facts.1)
 have HK := tuck hk
 have hko : PutOk t N len u ↔ (around (wayP t N len) u).Valid := ⟨fun h => h.2, fun h => ⟨hpl, h⟩⟩
 clear z d0 d1 d2 df z' e0 e1 e2 ef hb4 hk HT3 HU3 HR3 HPU
 go_wp2_with fail
 refine (madeS_any (around (wayP t N len) u) w4 _ (HK.out.mono (Nat.zero_le _))).mono ?_
 rintro e w5 ⟨hb5, hres⟩
 obtain ⟨z1, r0, r1, r2, rf⟩ := (HR4.out.below hb5).facts
 rcases hres with ⟨hkv, rfl⟩ | ⟨hkv, rfl⟩
 ·have HY := tuck (HYES.out (hko.2 hkv))
  clear HYES HNO hko hkv
  generalize around (wayP t N len) u = K at *
  go_wp2_with fail
  refine bodyPost_ret (v := .tuple #[.agg #[.int .i64 K.kind, .int .i64 K.num, .slice ka K.kids.length kc], .bool true]) (by simp [results, Tryz.results29, go_sem, *]) rfl (HY.out _ ka kc ?_ ?_)
  ·exact bSet3 (bAfter HB4.out hb5) (by omega) _ _ _ _ _ _
  ·exact SlIn.mono (tl_sl3 (HK.out.below hb5) HZ.out) HB3.out.size
 ·have HN := tuck (HNO.out (fun h => hkv (hko.1 h)))
  clear HYES HNO hko hkv
  go_wp2_with fail
  refine bodyPost_ret (v := .tuple #[.agg #[.int .i64 0, .int .i64 0, .slice none 0 0], .bool false]) (by simp [results, Tryz.results29, go_sem, *]) rfl (HN.out _ ?_)
  exact bSet3 (bAfter HB4.out hb5) (by omega) _ _ _ _ _ _
set_option maxRecDepth 100000 in
set_option maxHeartbeats 1600000 in
theorem putAtI_any (t : Tm) (N : Int → Int) (len : Nat) (hlen : len ≤ 1048576) (u : Tm) (w : World) (vt vp vu : Value) (ht : TmIn w 0 t vt) (hp : Ints w 0 N len vp) (hu : TmIn w 0 u vu) :
  Calls Tryz.prog 28 #[vt, vp, vu] w (ReplPost w (PutOk t N len u) (around (wayP t N len) u)) := by
 obtain ⟨s, rfl, hs⟩ := ht
 obtain ⟨a, c, rfl⟩ := hs.form
 obtain ⟨us, rfl, hus⟩ := hu
 obtain ⟨ua, uc, rfl⟩ := hus.form
 obtain ⟨pa, pc, rfl⟩ := hp.form
 have HNO : Hid (¬ PutOk t N len u → ∀ w', Below w.heap.size w w' → ReplPost w (PutOk t N len u) (around (wayP t N len) u) (.returned (.tuple #[.agg #[.int .i64 0, .int .i64 0, .slice none 0 0], .bool false])) w') := tuck fun h w' hb => ReplPost.no h hb
 have HEND : Hid (IsPlace t N len → ∀ w' a c F, Below w.heap.size w w' → SlOwn w' (orZero (around (wayP t N len) u).Valid (around (wayP t N len) u)).kids (.slice a (orZero (around (wayP t N len) u).Valid (around (wayP t N len) u)).kids.length c) F → F.Nodup → (∀ g ∈ F, w.heap.size ≤ g ∧ g < w'.heap.size) → ReplPost w (PutOk t N len u) (around (wayP t N len) u) (.returned (.tuple #[.agg #[.int .i64 (orZero (around (wayP t N len) u).Valid (around (wayP t N len) u)).kind, .int .i64 (orZero (around (wayP t N len) u).Valid (around (wayP t N len) u)).num, .slice a (orZero (around (wayP t N len) u).Valid (around (wayP t N len) u)).kids.length c], .bool (tr (around (wayP t N len) u).Valid)])) w') := tuck fun hpl w' a c F hb h1 h2 h3 => by
  by_cases hk : (around (wayP t N len) u).Valid
  ·unfold orZero at h1 ⊢
   simp only [if_pos hk] at h1 ⊢
   rw [tr_of hk]
   exact ReplPost.yes ⟨hpl, hk⟩ hb h1 h2 h3
  ·unfold orZero at h1 ⊢
   simp only [if_neg hk] at h1 ⊢
   rw [tr_not hk]
   exact ⟨hb, _, by rw [tr_not (fun h : PutOk t N len u => hk h.2)], by unfold orZero; rw [if_neg (fun h : PutOk t N len u => hk h.2)]; exact ⟨_, F, rfl, h1, h2, h3⟩⟩
 generalize ReplPost w (PutOk t N len u) (around (wayP t N len) u) = post at *
 have HS := tuck hs
 have HP := tuck hp
 have HU := tuck hus
 have HBT := tuck (((VarAt.new w t.kind t.num (.slice a t.kids.length c)).below (below1 _ (.cells #[.int .i64 u.kind, .int .i64 u.num, .slice ua u.kids.length uc] 34))).below (below1 _ (.cells #[.int .i64 0, .int .i64 0, .slice none 0 0] 34)))
 have HBU := tuck ((var_new1 w (.cells #[.int .i64 t.kind, .int .i64 t.num, .slice a t.kids.length c] 34) u.kind u.num (.slice ua u.kids.length uc)).below (below1 _ (.cells #[.int .i64 0, .int .i64 0, .slice none 0 0] 34)))
 have HBR := tuck (var_new2 w (.cells #[.int .i64 t.kind, .int .i64 t.num, .slice a t.kids.length c] 34) (.cells #[.int .i64 u.kind, .int .i64 u.num, .slice ua u.kids.length uc] 34) 0 0 (.slice none 0 0))
 have HB0 := tuck (below3 w (.cells #[.int .i64 t.kind, .int .i64 t.num, .slice a t.kids.length c] 34) (.cells #[.int .i64 u.kind, .int .i64 u.num, .slice ua u.kids.length uc] 34) (.cells #[.int .i64 0, .int .i64 0, .slice none 0 0] 34))
 clear hs hp hus
 obtain ⟨z, d0, d1, d2, df⟩ := HBT.out.facts
 go_enter Tryz.func28, Tryz.ntmps28
 go_wp2_with fail
 generalize ((w.alloc (.cells #[.int .i64 t.kind, .int .i64 t.num, .slice a t.kids.length c] 34)).alloc (.cells #[.int .i64 u.kind, .int .i64 u.num, .slice ua u.kids.length uc] 34)).alloc (.cells #[.int .i64 0, .int .i64 0, .slice none 0 0] 34) = W0 at *
 refine (placeI_any t N len hlen W0 _ _ ⟨_, rfl, HS.out.below HB0.out⟩ (HP.out.below HB0.out)).mono ?_
 rintro e w1 ⟨hb1, hat⟩
 have HB1 := tuck (bAfter HB0.out hb1)
 have HU1 := tuck (HBU.out.below hb1)
 have HR1 := tuck (HBR.out.below hb1)
 clear z d0 d1 d2 df HBT HBU HBR HP HS
 rcases hat with ⟨hpl, g, M, rfl, hcur, -⟩ | ⟨hno, rfl⟩
 rotate_left
 ·obtain ⟨z1, r0, r1, r2, rf⟩ := HR1.out.facts
  clear hb1
  go_wp2_with fail
  refine bodyPost_ret (v := .tuple #[.agg #[.int .i64 0, .int .i64 0, .slice none 0 0], .bool false]) (by simp [results, Tryz.results28, go_sem, *]) rfl (HNO.out (fun h => hno h.1) _ ?_)
  exact bSet3 HB1.out (by omega) _ _ _ _ _ _
 have hk := hpl.ok
 have hsh := (hk.short hpl.1).2
 obtain ⟨hview, cs, qs, -, hpas, hst⟩ := hcur
 obtain ⟨sa, gb, cap, hcv, hgb, hcells⟩ := hst.view
 have hql := hpas.length
 have zg := World.block_lt_of_cell? w1 _ hcv
 have HE := tuck (HEND.out hpl)
 have HAR : Hid (∀ W, Below w1.heap.size w1 W → Calls Tryz.prog 69 #[.slice sa qs.length cap, .agg #[.int .i64 u.kind, .int .i64 u.num, .slice ua u.kids.length uc]] W (ArndPost (fun _ => False) W (around (wayP t N len) u))) := tuck fun W hW =>
  around_any W (fun _ => False) (fun _ h => h.elim) (wayP t N len) qs (Passed.toX (fun l v h => SlX.of_sl (h.below (bAfter hb1 hW)) (fun _ h => h.elim)) hk.inn hk.nodes hpas) (by omega) sa gb cap (fun hn => ⟨(hgb hn).1, Nat.lt_of_lt_of_le (hgb hn).2 hW.size⟩) (fun j x hj => (hW.cell (World.block_lt_of_cell? w1 _ (hcells j x hj))).trans (hcells j x hj)) u _ (SlX.of_sl (HU.out.below (bAfter HB1.out hW)) (fun _ h => h.elim))
 have HOLD : Hid (∀ w', Below w1.heap.size w1 w' → (fun w' : World => Below w1.heap.size w1 w' ∧ (g < w'.heap.size ∧ w.heap.size + 1 < w'.heap.size) ∧ w'.cell? ⟨g, 3, none⟩ = some (.slice sa qs.length cap) ∧ (w'.cell? ⟨w.heap.size + 1, 0, none⟩ = some (.int .i64 u.kind) ∧ w'.cell? ⟨w.heap.size + 1, 1, none⟩ = some (.int .i64 u.num) ∧ w'.cell? ⟨w.heap.size + 1, 2, none⟩ = some (.slice ua u.kids.length uc))) w') := tuck fun w' h => ⟨h, ⟨Nat.lt_of_lt_of_le zg h.size, (HU1.out.below h).facts.1⟩, (h.cell (p := ⟨g, 3, none⟩) zg).trans hcv, ⟨(HU1.out.below h).facts.2.1, (HU1.out.below h).facts.2.2.1, (HU1.out.below h).facts.2.2.2.1⟩⟩
 have HCK := tuck (fun W a' c' (h : SlIn W 0 (around (wayP t N len) u).kids (.slice a' (around (wayP t N len) u).kids.length c')) => checked_any (around (wayP t N len) u) W _ h)
 clear hst hcells hgb hpas hql hview hk hsh hpl HEND HNO hb1
 generalize around (wayP t N len) u = Y at *
 go_upto_region 4 with fail
 refine AnyTwo.begin (fun w' : World => Below w1.heap.size w1 w' ∧ (g < w'.heap.size ∧ w.heap.size + 1 < w'.heap.size) ∧ w'.cell? ⟨g, 3, none⟩ = some (.slice sa qs.length cap) ∧ (w'.cell? ⟨w.heap.size + 1, 0, none⟩ = some (.int .i64 u.kind) ∧ w'.cell? ⟨w.heap.size + 1, 1, none⟩ = some (.int .i64 u.num) ∧ w'.cell? ⟨w.heap.size + 1, 2, none⟩ = some (.slice ua u.kids.length uc))) (fun _ => True) 9 (by kernel_rfl) ?_
 have hS1 : (fun w' : World => Below w1.heap.size w1 w' ∧ (g < w'.heap.size ∧ w.heap.size + 1 < w'.heap.size) ∧ w'.cell? ⟨g, 3, none⟩ = some (.slice sa qs.length cap) ∧ (w'.cell? ⟨w.heap.size + 1, 0, none⟩ = some (.int .i64 u.kind) ∧ w'.cell? ⟨w.heap.size + 1, 1, none⟩ = some (.int .i64 u.num) ∧ w'.cell? ⟨w.heap.size + 1, 2, none⟩ = some (.slice ua u.kids.length uc))) _ := HOLD.out _ (Below.refl _ _).drew
 refine AnyTwo.take (i := 0) (oi := ⟨some 19, _, _, _, _, _⟩) (v := ?vr0) rfl (by kernel_rfl) (by kernel_rfl) (by decide +kernel) (by kernel_rfl) (by rfl) (by kernel_rfl) (fun _ _ _ h => h) (Or.inl ⟨by rfl, ?yr0⟩) hS1 ?rr0
 case yr0 => (intro w hSw; (try dsimp only at hSw); go_simp; try (with_reducible rfl))
 try simp only [Act.put, List.setIfInBounds_toArray, List.set_cons_zero, List.set_cons_succ]
 refine AnyTwo.take (i := 1) (oi := ⟨some 20, _, _, _, _, _⟩) (v := ?vr1) rfl (by kernel_rfl) (by kernel_rfl) (by decide +kernel) (by kernel_rfl) (by rfl) (by kernel_rfl) (fun _ _ _ h => h) (Or.inl ⟨by rfl, ?yr1⟩) hS1 ?rr1
 case yr1 => (intro w hSw; (try dsimp only at hSw); go_simp; try (with_reducible rfl))
 try simp only [Act.put, List.setIfInBounds_toArray, List.set_cons_zero, List.set_cons_succ]
 refine AnyTwo.take (i := 2) (oi := ⟨some 21, _, _, _, _, _⟩) (v := ?vr2) rfl (by kernel_rfl) (by kernel_rfl) (by decide +kernel) (by kernel_rfl) (by rfl) (by kernel_rfl) (fun _ _ _ h => h) (Or.inl ⟨by rfl, ?yr2⟩) hS1 ?rr2
 case yr2 => (intro w hSw; (try dsimp only at hSw); go_simp; try (with_reducible rfl))
 try simp only [Act.put, List.setIfInBounds_toArray, List.set_cons_zero, List.set_cons_succ]
 refine AnyTwo.take (i := 3) (oi := ⟨some 22, _, _, _, _, _⟩) (v := ?vr3) rfl (by kernel_rfl) (by kernel_rfl) (by decide +kernel) (by kernel_rfl) (by rfl) (by kernel_rfl) (fun _ _ _ h => h) (Or.inl ⟨by rfl, ?yr3⟩) hS1 ?rr3
 case yr3 => (intro w hSw; (try dsimp only at hSw); go_simp; try (with_reducible rfl))
 try simp only [Act.put, List.setIfInBounds_toArray, List.set_cons_zero, List.set_cons_succ]
 refine AnyTwo.take (i := 4) (oi := ⟨some 23, _, _, _, _, _⟩) (v := ?vr4) rfl (by kernel_rfl) (by kernel_rfl) (by decide +kernel) (by kernel_rfl) (by rfl) (by kernel_rfl) (fun _ _ _ h => h) (Or.inl ⟨by rfl, ?yr4⟩) hS1 ?rr4
 case yr4 => (intro w hSw; (try dsimp only at hSw); go_simp; try (with_reducible rfl))
 try simp only [Act.put, List.setIfInBounds_toArray, List.set_cons_zero, List.set_cons_succ]
 refine AnyTwo.step (i := 5) (o := ⟨some 24, _, _, _, _, _⟩) (by kernel_rfl) rfl (fun K hK => ?_)
 go_simp
 refine (HAR.out _ hS1.1).mono ?_
 rintro e w2 ⟨hb2, xa, xc, rfl, hsx⟩
 have HSX := tuck hsx.sl
 have hS1' : (fun w' : World => Below w1.heap.size w1 w' ∧ (g < w'.heap.size ∧ w.heap.size + 1 < w'.heap.size) ∧ w'.cell? ⟨g, 3, none⟩ = some (.slice sa qs.length cap) ∧ (w'.cell? ⟨w.heap.size + 1, 0, none⟩ = some (.int .i64 u.kind) ∧ w'.cell? ⟨w.heap.size + 1, 1, none⟩ = some (.int .i64 u.num) ∧ w'.cell? ⟨w.heap.size + 1, 2, none⟩ = some (.slice ua u.kids.length uc))) _ := HOLD.out _ (bAfter hS1.1 hb2)
 refine hK.out _ _ (ph_one (by kernel_rfl) hS1') ?_
 clear hK K hS1
 have hS1 := hS1'
 clear hS1'
 try simp only [Act.put, List.setIfInBounds_toArray, List.set_cons_zero, List.set_cons_succ]
 refine AnyTwo.step (i := 6) (o := ⟨some 25, _, _, _, _, _⟩) (by kernel_rfl) rfl (fun K hK => ?_)
 go_simp
 refine (HCK.out w2 xa xc HSX.out).mono ?_
 rintro e w3 ⟨hb3, v, rfl, sv, F, rfl, hs3, hn3, hF3⟩
 obtain ⟨ya, yc, rfl⟩ := hs3.form
 have HB2 := tuck (bAfter HB1.out hS1.1)
 obtain ⟨z1, r0, r1, r2, rf⟩ := (HR1.out.below (bAfter hS1.1 hb3)).facts
 have HZ := tuck (show w.heap.size + 1 + 1 < _ from (HR1.out.below hS1.1).facts.1)
 generalize hRR : orZero Y.Valid Y = R at *
 generalize tr Y.Valid = b at *
 clear hRR
 have hS1' : (fun w' : World => Below w1.heap.size w1 w' ∧ (g < w'.heap.size ∧ w.heap.size + 1 < w'.heap.size) ∧ w'.cell? ⟨g, 3, none⟩ = some (.slice sa qs.length cap) ∧ (w'.cell? ⟨w.heap.size + 1, 0, none⟩ = some (.int .i64 u.kind) ∧ w'.cell? ⟨w.heap.size + 1, 1, none⟩ = some (.int .i64 u.num) ∧ w'.cell? ⟨w.heap.size + 1, 2, none⟩ = some (.slice ua u.kids.length uc))) _ := HOLD.out _ (bAfter hS1.1 hb3)
 refine hK.out _ _ (ph_one (by kernel_rfl) hS1') ?_
 clear hK K hS1
 have hS1 := hS1'
 clear hS1'
 try simp only [Act.put, List.setIfInBounds_toArray, List.set_cons_zero, List.set_cons_succ]
 refine AnyTwo.take (i := 7) (oi := ⟨some 26, _, _, _, _, _⟩) (v := ?vr7) rfl (by kernel_rfl) (by kernel_rfl) (by decide +kernel) (by kernel_rfl) (by rfl) (by kernel_rfl) (fun _ _ _ h => h) (Or.inl ⟨by rfl, ?yr7⟩) hS1 ?rr7
 case yr7 => (intro w hSw; (try dsimp only at hSw); go_simp; try (with_reducible rfl))
 try simp only [Act.put, List.setIfInBounds_toArray, List.set_cons_zero, List.set_cons_succ]
 refine AnyTwo.take (i := 8) (oi := ⟨some 27, _, _, _, _, _⟩) (v := ?vr8) rfl (by kernel_rfl) (by kernel_rfl) (by decide +kernel) (by kernel_rfl) (by rfl) (by kernel_rfl) (fun _ _ _ h => h) (Or.inl ⟨by rfl, ?yr8⟩) hS1 ?rr8
 case yr8 => (intro w hSw; (try dsimp only at hSw); go_simp; try (with_reducible rfl))
 try simp only [Act.put, List.setIfInBounds_toArray, List.set_cons_zero, List.set_cons_succ]
 refine AnyTwo.step (i := 9) (o := ⟨none, _, _, _, _, _⟩) (by kernel_rfl) rfl (fun K hK => ?_)
 go_simp
 refine hK.out _ _ (ph_end (by kernel_rfl) trivial) ?_
 clear hK K
 try simp only [Act.put, List.setIfInBounds_toArray, List.set_cons_zero, List.set_cons_succ]
 refine AnyTwo.step (i := 10) (o := ⟨some 7, _, _, _, _, _⟩) (by kernel_rfl) rfl (fun K hK => ?_)
 go_simp
 refine hK.out _ _ (ph_end (by kernel_rfl) trivial) ?_
 clear hK K
 try simp only [Act.put, List.setIfInBounds_toArray, List.set_cons_zero, List.set_cons_succ]
 refine AnyTwo.done (by kernel_rfl) ?_ _
 go_wp2_with fail
 refine bodyPost_ret (v := .tuple #[.agg #[.int .i64 R.kind, .int .i64 R.num, .slice ya R.kids.length yc], .bool b]) (by simp [results, Tryz.results28, go_sem, *]) rfl (HE.out _ ya yc F ?_ ?_ hn3 (fun g hg => ?_))
 ·exact bSet3 (bAfter HB2.out hb3) (by omega) _ _ _ _ _ _
 ·exact hs3.set3 (fun h => by have := (hF3 _ h).1; have := HZ.out; omega) _ _ _ _ _ _
 ·rw [size_set3]
  have := hF3 g hg
  have := HZ.out
  omega
end Go.Proofs.YtihlbbbajaepoaaGreat
