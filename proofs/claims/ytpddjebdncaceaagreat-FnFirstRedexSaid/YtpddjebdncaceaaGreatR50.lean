/-
  DrawsU, PlM.
-/
import Derived.Test.YtpddjebdncaceaaGreatR11
import Derived.Test.YtpddjebdncaceaaGreatR14
import Derived.Test.YtpddjebdncaceaaGreatR18
import Derived.Test.YtpddjebdncaceaaGreatR23
import Derived.Test.YtpddjebdncaceaaGreatR25
import Derived.Test.YtpddjebdncaceaaGreatR26
import Derived.Test.YtpddjebdncaceaaGreatR27
import Derived.Test.YtpddjebdncaceaaGreatR28
import Derived.Test.YtpddjebdncaceaaGreatR34
import Derived.Test.YtpddjebdncaceaaGreatR48
import Derived.BigQuiet
import Derived.Deep.DeepCutAuto
import Derived.Deep.QuietTactic
namespace Go.Proofs.YtpddjebdncaceaaGreat
open Go.RowKit
def TmPostR (w : World) (e : Ending) (w' : World) : Prop := ∃ (T : Tm) (v : Value), e = .returned v ∧ TmIn w' w.heap.size T v ∧ T.size ≤ 1000 ∧ Below w.heap.size w w'
set_option maxRecDepth 100000 in
set_option maxHeartbeats 1600000 in
theorem dRedexOf_any {U : Nat → Int} {a : Option Addr} {b o len cap : Nat} (w : World) (hlen : len ≤ 140737488355328) (hcap : len ≤ cap) (hby : Bytes U a b o len w) : Calls Tryz.prog 58 #[.slice a len cap] w (TmPostR w) := by
 have HP : Hid (∀ T v w', TmIn w' w.heap.size T v → T.size ≤ 1000 → Below w.heap.size w w' → TmPostR w (.returned v) w') := fun T v w' h1 h2 h3 => ⟨T, v, rfl, h1, h2, h3⟩
 generalize TmPostR w = post at *
 have hz0 : (w.alloc (.cells #[.int .i64 0, .int .i64 0, .slice none 0 0] 34)).heap.size = w.heap.size + 1 := by simp
 have hb0 : Below w.heap.size w (w.alloc (.cells #[.int .i64 0, .int .i64 0, .slice none 0 0] 34)) := below1 _ _
 have HO := tuck (open_any (w.alloc (.cells #[.int .i64 0, .int .i64 0, .slice none 0 0] 34)) hlen hcap (hby.below hb0))
 have hv0 : VarAt w.heap.size 0 0 (.slice none 0 0) (w.alloc (.cells #[.int .i64 0, .int .i64 0, .slice none 0 0] 34)) := VarAt.new w 0 0 (.slice none 0 0)
 clear hby
 go_enter Tryz.func58, Tryz.ntmps58
 go_wp2_with fail
 refine HO.out.mono ?_
 rintro e w1 ⟨a', len', cap', he, hl, hbl, hrd, hby, hb1, hz⟩
 generalize w.alloc (.cells #[.int .i64 0, .int .i64 0, .slice none 0 0] 34) = W0 at *
 have hgz : w.heap.size < W0.heap.size := by omega
 have HB := tuck (bAfter hb0 hb1)
 have HV := tuck (hv0.below hb1)
 clear hb1
 generalize W0.heap.size = g at *
 subst he
 subst hz0
 have HBW : Hid (0 < len' → b ≠ w.heap.size + 1) := tuck (fun h => Nat.ne_of_lt (hbl h))
 have HRD := tuck hrd
 have HBY := tuck hby
 clear hrd hby HO hbl hv0 hb0
 have hne : w.heap.size ≠ w.heap.size + 1 := by omega
 go_wp2_with fail
 refine (l3draw_any _ hl HBW.out (by omega) HRD.out HBY.out).mono ?_
 rintro e w3 ⟨t, s, p', rfl, hsl, hv, hp', hrd, ho⟩
 obtain ⟨sa, sc, rfl⟩ := hsl.form
 have hsz : sizes t.kids ≤ 900 := by have := hv.2.2; have := t.size_eq; omega
 have HIN := tuck (hsl.mono (Nat.zero_le _))
 replace HB := tuck (Only.below HB.out ho (by omega) HB.out.size)
 replace HBY := tuck (HBY.out.only ho HBW.out)
 replace HV := tuck (HV.out.only ho hne)
 replace HRD := tuck hrd
 clear ho hrd hsl hv
 go_wp2_with fail
 refine (lmut_any t _ _ hl HBW.out (by omega) hsz HRD.out HBY.out ⟨_, rfl, HIN.out⟩).mono ?_
 rintro e w4 ⟨T, v, p2, rfl, ⟨s4, rfl, hin⟩, hsz2, -, -, ho⟩
 obtain ⟨sa4, sc4, rfl⟩ := hin.form
 have hz3 : w.heap.size < w3.heap.size := (HV.out.facts).1
 have HIN4 := tuck hin
 replace HB := tuck (Only.below HB.out ho (by omega) HB.out.size)
 replace HV := tuck (HV.out.only ho hne)
 clear ho hin
 obtain ⟨zv, v0, v1, v2, vf⟩ := HV.out.facts
 go_wp2_with fail
 refine bodyPost_ret (v := .agg #[.int .i64 T.kind, .int .i64 T.num, .slice sa4 T.kids.length sc4]) (by simp [results, Tryz.results58, go_sem, *]) rfl (HP.out T _ _ ⟨_, rfl, (HIN4.out.set3 hz3).mono (Nat.le_of_lt hz3)⟩ hsz2 (bSet3 HB.out (Nat.le_refl _) _ _ _ _ _ _))
end Go.Proofs.YtpddjebdncaceaaGreat
namespace Go.Proofs.YtpddjebdncaceaaGreat
open Go.RowKit
def ContrAt (t : Tm) (N : Int → Int) (len : Nat) : Prop := IsPlace t N len ∧ (wayT t N len).redex ≠ 0 ∧ (around (wayP t N len) (wayT t N len).contr).Valid
def contrAt (t : Tm) (N : Int → Int) (len : Nat) : Tm := around (wayP t N len) (wayT t N len).contr
set_option maxRecDepth 100000 in
set_option maxHeartbeats 1600000 in
theorem scontractN_any (w : World) (X : Nat → Prop) (hX : ∀ i, X i → i < w.heap.size) (sa : Option Addr) (m cap : Nat) (t : Tm) (hr : t.rootOk) (hk : ∀ i (hi : i < t.kids.length), t.kids[i].Valid) (hn : ¬ (t.redex ≠ 0 ∧ t.contr.Valid)) (s : Value) (hs : SlX w X t.kids s) :
  Calls Tryz.prog 44 #[.slice sa m cap, .agg #[.int .i64 t.kind, .int .i64 t.num, s]] w (fun e w' => Below w.heap.size w w' ∧ e = .returned (.tuple #[.agg #[.int .i64 0, .int .i64 0, .slice none 0 0], .bool false])) := by
 obtain ⟨a, c, rfl⟩ := hs.form
 have hb2 := below2 w (.cells #[.int .i64 t.kind, .int .i64 t.num, .slice a t.kids.length c] 34) (.cells #[.int .i64 0, .int .i64 0, .slice none 0 0] 34)
 have HV0 := tuck ((VarAt.new w t.kind t.num (.slice a t.kids.length c)).below (below1 _ (.cells #[.int .i64 0, .int .i64 0, .slice none 0 0] 34)))
 have HV1 := tuck (var_new1 w (.cells #[.int .i64 t.kind, .int .i64 t.num, .slice a t.kids.length c] 34) 0 0 (.slice none 0 0))
 have HCON := tuck (contract_any t hr hk _ (With X w (w.heap.size + 2)) (fun i hi => by
  rcases hi with hi | hi
  ·have := hX i hi; simp; omega
  ·simp; omega) _ (hs.widen hb2 (w.heap.size + 2)))
 have HB2 := tuck hb2
 obtain ⟨post, hpost⟩ : ∃ post : Ending → World → Prop, post = (fun e w' => Below w.heap.size w w' ∧ e = .returned (.tuple #[.agg #[.int .i64 0, .int .i64 0, .slice none 0 0], .bool false])) := ⟨_, rfl⟩
 rw [← hpost]
 have HPOST : Hid (∀ w', Below w.heap.size w w' → post (.returned (.tuple #[.agg #[.int .i64 0, .int .i64 0, .slice none 0 0], .bool false])) w') := tuck fun w' h => by rw [hpost]; exact ⟨h, rfl⟩
 clear hpost hs hb2 hX hr hk
 obtain ⟨z0, a0, a1, a2, -⟩ := HV0.out.facts
 go_enter Tryz.func44, Tryz.ntmps44
 go_wp2_with fail
 generalize (w.alloc (.cells #[.int .i64 t.kind, .int .i64 t.num, .slice a t.kids.length c] 34)).alloc (.cells #[.int .i64 0, .int .i64 0, .slice none 0 0] 34) = W0 at *
 refine HCON.out.mono ?_
 rintro e w3 hp3
 obtain ⟨U, ua, uc, rfl, hb3, hs3, -⟩ := hp3.open
 rw [tr_not hn]
 obtain ⟨zr, r0, r1, r2, rf⟩ := (HV1.out.below hb3).facts
 have hbk := below1 w3 (.cells #[.int .i64 U.kind, .int .i64 U.num, .slice ua U.kids.length uc] 34)
 obtain ⟨zr', r0', r1', r2', rf'⟩ := ((HV1.out.below hb3).below hbk).facts
 have HB3 := tuck (bAfter HB2.out hb3)
 clear hp3 hb3 hs3 hbk HCON hn z0 a0 a1 a2
 go_wp2_with fail
 refine bodyPost_ret (v := .tuple #[.agg #[.int .i64 0, .int .i64 0, .slice none 0 0], .bool false]) (by simp [results, Tryz.results44, go_sem, *]) rfl (HPOST.out _ ?_)
 exact bAfter (bSet3 HB3.out (Nat.le_succ _) _ _ _ _ _ _) (below1 _ _)
set_option maxRecDepth 100000 in
set_option maxHeartbeats 3200000 in
theorem contractAtI_any (t : Tm) (N : Int → Int) (len : Nat) (hlen : len ≤ 1048576) (w : World) (vt vp : Value) (ht : TmIn w 0 t vt) (hp : Ints w 0 N len vp) :
  Calls Tryz.prog 20 #[vt, vp] w (ReplPost w (ContrAt t N len) (contrAt t N len)) := by
 obtain ⟨s, rfl, hs⟩ := ht
 obtain ⟨a, c, rfl⟩ := hs.form
 obtain ⟨pa, pc, rfl⟩ := hp.form
 have HNO : Hid (¬ ContrAt t N len → ∀ w', Below w.heap.size w w' → ReplPost w (ContrAt t N len) (contrAt t N len) (.returned (.tuple #[.agg #[.int .i64 0, .int .i64 0, .slice none 0 0], .bool false])) w') := tuck fun h w' hb => ReplPost.no h hb
 have HYES : Hid (ContrAt t N len → ∀ w' s F, Below w.heap.size w w' → SlOwn w' (contrAt t N len).kids s F → F.Nodup → (∀ g ∈ F, w.heap.size ≤ g ∧ g < w'.heap.size) → ReplPost w (ContrAt t N len) (contrAt t N len) (.returned (.tuple #[.agg #[.int .i64 (contrAt t N len).kind, .int .i64 (contrAt t N len).num, s], .bool true])) w') := tuck fun h w' s F h1 h2 h3 h4 => ReplPost.yes h h1 h2 h3 h4
 generalize ReplPost w (ContrAt t N len) (contrAt t N len) = post at *
 have HS := tuck hs
 have HP := tuck hp
 have HBT := tuck ((VarAt.new w t.kind t.num (.slice a t.kids.length c)).below (below1 _ (.cells #[.int .i64 0, .int .i64 0, .slice none 0 0] 34)))
 have HBR := tuck (var_new1 w (.cells #[.int .i64 t.kind, .int .i64 t.num, .slice a t.kids.length c] 34) 0 0 (.slice none 0 0))
 have HB0 := tuck (below2 w (.cells #[.int .i64 t.kind, .int .i64 t.num, .slice a t.kids.length c] 34) (.cells #[.int .i64 0, .int .i64 0, .slice none 0 0] 34))
 clear hs hp
 obtain ⟨z, d0, d1, d2, df⟩ := HBT.out.facts
 go_enter Tryz.func20, Tryz.ntmps20
 go_wp2_with fail
 generalize (w.alloc (.cells #[.int .i64 t.kind, .int .i64 t.num, .slice a t.kids.length c] 34)).alloc (.cells #[.int .i64 0, .int .i64 0, .slice none 0 0] 34) = W0 at *
 refine (placeI_any t N len hlen W0 _ _ ⟨_, rfl, HS.out.below HB0.out⟩ (HP.out.below HB0.out)).mono ?_
 rintro e w1 ⟨hb1, hat⟩
 have HB1 := tuck (bAfter HB0.out hb1)
 have HR1 := tuck (HBR.out.below hb1)
 clear z d0 d1 d2 df HBT HBR HP HS
 rcases hat with ⟨hpl, g, M, rfl, hcur, -⟩ | ⟨hno, rfl⟩
 rotate_left
 ·obtain ⟨z1, r0, r1, r2, rf⟩ := HR1.out.facts
  clear hb1
  go_wp2_with fail
  refine bodyPost_ret (v := .tuple #[.agg #[.int .i64 0, .int .i64 0, .slice none 0 0], .bool false]) (by simp [results, Tryz.results20, go_sem, *]) rfl (HNO.out (fun h => hno h.1) _ ?_)
  exact bSet3 HB1.out (by omega) _ _ _ _ _ _
 have hk := hpl.ok
 have hsh := (hk.short hpl.1).2
 obtain ⟨hview, sx, qs, hsx, hpas, hst⟩ := hcur
 obtain ⟨xa, xc, rfl⟩ := hsx.form
 obtain ⟨zg, g0, g1, g2, -⟩ := cur_cells hst
 obtain ⟨sa, gb, cap, hcv, hgb, hcells⟩ := hst.view
 have hql := hpas.length
 have hka : ContrAt t N len ↔ ((wayT t N len).redex ≠ 0 ∧ (contrAt t N len).Valid) := ⟨fun h => h.2, fun h => ⟨hpl, h⟩⟩
 have HCT : Hid (∀ W, Below w1.heap.size w1 W → Calls Tryz.prog 44 #[.slice sa qs.length cap, .agg #[.int .i64 (wayT t N len).kind, .int .i64 (wayT t N len).num, .slice xa (wayT t N len).kids.length xc]] W (ContrPost (fun i => i = w1.heap.size ∧ i < W.heap.size) W ((wayT t N len).redex ≠ 0 ∧ (contrAt t N len).Valid) (contrAt t N len))) := tuck fun W hW => by
  have hvw : View W0 (fun i => i = w1.heap.size ∧ i < W.heap.size) W := View.of_below (bAfter hb1 hW) (fun i hi => by rw [hi.1]; exact hb1.size)
  have hx1 : SlX W (fun i => i = w1.heap.size ∧ i < W.heap.size) (wayT t N len).kids (.slice xa (wayT t N len).kids.length xc) := SlX.of_view hsx hvw
  by_cases hcv : (wayT t N len).redex ≠ 0 ∧ (wayT t N len).contr.Valid
  ·have := scontract_any W (fun i => i = w1.heap.size ∧ i < W.heap.size) (fun i hi => hi.2) (wayP t N len) hk.inn qs (Passed.toX (fun l v h => SlX.of_view h hvw) hk.inn hk.nodes hpas) (by omega) sa gb cap (fun hn => ⟨(hgb hn).1, Nat.lt_of_lt_of_le (hgb hn).2 hW.size⟩) (fun j x hj => (hW.cell (World.block_lt_of_cell? w1 _ (hcells j x hj))).trans (hcells j x hj)) (wayT t N len) hk.valid.root (fun i hi => hk.valid.get hi) hcv.1 _ hx1
   rw [show ((wayT t N len).redex ≠ 0 ∧ (contrAt t N len).Valid) = (around (wayP t N len) (wayT t N len).contr).Valid from propext ⟨fun h => h.2, fun h => ⟨hcv.1, h⟩⟩]
   exact this
  ·have hnn : ¬ ((wayT t N len).redex ≠ 0 ∧ (contrAt t N len).Valid) := fun h => hcv ⟨h.1, around_valid _ _ hk.inn h.2⟩
   refine (scontractN_any W (fun i => i = w1.heap.size ∧ i < W.heap.size) (fun i hi => hi.2) sa qs.length cap (wayT t N len) hk.valid.root (fun i hi => hk.valid.get hi) hcv _ hx1).mono ?_
   rintro e w' ⟨h1, rfl⟩
   exact ⟨h1, zeroT, .slice none 0 0, by rw [tr_not hnn]; rfl, SlX.nil _ _ _ _, fun h => absurd h hnn⟩
 have HCL : Hid ((contrAt t N len).Valid → ∀ (W : World) (s : Value), SlIn W 0 (contrAt t N len).kids s → Calls Tryz.prog 45 #[.agg #[.int .i64 (contrAt t N len).kind, .int .i64 (contrAt t N len).num, s]] W (MadePost W (contrAt t N len))) := tuck fun h W s hs => by
  have h2 := (valid_bounds h).1
  have := cloneI_any (contrAt t N len).kids (contrAt t N len).kind (contrAt t N len).num W _ (by omega) hs
  rwa [Tm.eta] at this
 obtain ⟨CA, hCA⟩ : ∃ CA : Prop, CA = ((wayT t N len).redex ≠ 0 ∧ (contrAt t N len).Valid) := ⟨_, rfl⟩
 rw [← hCA] at HCT hka
 have HKA : Hid ((ContrAt t N len ↔ CA) ∧ (CA → (contrAt t N len).Valid)) := tuck ⟨hka, fun h => by rw [hCA] at h; exact h.2⟩
 have zv := World.block_lt_of_cell? w1 _ hcv
 clear hCA hka hst hcells hgb hpas hql hview hk hsh hpl hb1 hsx
 generalize contrAt t N len = Y at *
 generalize wayT t N len = x at *
 have HOLD : Hid (∀ w', Below w1.heap.size w1 w' → (fun w' : World => Below w1.heap.size w1 w' ∧ g < w'.heap.size ∧ w'.cell? ⟨g, 3, none⟩ = some (.slice sa qs.length cap) ∧ (w'.cell? ⟨g, 0, none⟩ = some (.int .i64 x.kind) ∧ w'.cell? ⟨g, 1, none⟩ = some (.int .i64 x.num) ∧ w'.cell? ⟨g, 2, none⟩ = some (.slice xa x.kids.length xc))) w') := tuck fun w' h => ⟨h, Nat.lt_of_lt_of_le zg h.size, (h.cell (p := ⟨g, 3, none⟩) zg).trans hcv, ⟨(h.cell (p := ⟨g, 0, none⟩) zg).trans g0, (h.cell (p := ⟨g, 1, none⟩) zg).trans g1, (h.cell (p := ⟨g, 2, none⟩) zg).trans g2⟩⟩
 go_upto_region 4 with fail
 go_cut [7, 8] (fun p7 p8 wx => ∃ (gz : Nat) (U : Tm) (ua : Option Addr) (uc : Nat), p8 = .pointer (some ⟨gz, 0, none⟩) ∧ p7 = .bool (tr CA) ∧ Below w1.heap.size w1 wx ∧ VarAt gz U.kind U.num (.slice ua U.kids.length uc) wx ∧ w1.heap.size ≤ gz ∧ SlIn wx 0 U.kids (.slice ua U.kids.length uc) ∧ (CA → U = Y))
 case first =>
  refine AnyTwo.begin (fun w' : World => Below w1.heap.size w1 w' ∧ g < w'.heap.size ∧ w'.cell? ⟨g, 3, none⟩ = some (.slice sa qs.length cap) ∧ (w'.cell? ⟨g, 0, none⟩ = some (.int .i64 x.kind) ∧ w'.cell? ⟨g, 1, none⟩ = some (.int .i64 x.num) ∧ w'.cell? ⟨g, 2, none⟩ = some (.slice xa x.kids.length xc))) (fun _ => True) 14 (by kernel_rfl) ?_
  have hS1 : (fun w' : World => Below w1.heap.size w1 w' ∧ g < w'.heap.size ∧ w'.cell? ⟨g, 3, none⟩ = some (.slice sa qs.length cap) ∧ (w'.cell? ⟨g, 0, none⟩ = some (.int .i64 x.kind) ∧ w'.cell? ⟨g, 1, none⟩ = some (.int .i64 x.num) ∧ w'.cell? ⟨g, 2, none⟩ = some (.slice xa x.kids.length xc))) w1.drew := HOLD.out _ (Below.refl _ _).drew
  refine AnyTwo.take (i := 0) (oi := ⟨some 19, _, _, _, _, _⟩) (v := ?vt0) rfl (by kernel_rfl) (by kernel_rfl) (by decide +kernel) (by kernel_rfl) (by rfl) (by kernel_rfl) (fun _ _ _ h => h) (Or.inl ⟨by rfl, ?yt0⟩) hS1 ?rt0
  case yt0 => (intro w hSw; (try dsimp only at hSw); go_simp; try (with_reducible rfl))
  try simp only [Act.put, List.setIfInBounds_toArray, List.set_cons_zero, List.set_cons_succ]
  refine AnyTwo.take (i := 1) (oi := ⟨some 20, _, _, _, _, _⟩) (v := ?vt1) rfl (by kernel_rfl) (by kernel_rfl) (by decide +kernel) (by kernel_rfl) (by rfl) (by kernel_rfl) (fun _ _ _ h => h) (Or.inl ⟨by rfl, ?yt1⟩) hS1 ?rt1
  case yt1 => (intro w hSw; (try dsimp only at hSw); go_simp; try (with_reducible rfl))
  try simp only [Act.put, List.setIfInBounds_toArray, List.set_cons_zero, List.set_cons_succ]
  refine AnyTwo.take (i := 2) (oi := ⟨some 21, _, _, _, _, _⟩) (v := ?vt2) rfl (by kernel_rfl) (by kernel_rfl) (by decide +kernel) (by kernel_rfl) (by rfl) (by kernel_rfl) (fun _ _ _ h => h) (Or.inl ⟨by rfl, ?yt2⟩) hS1 ?rt2
  case yt2 => (intro w hSw; (try dsimp only at hSw); go_simp; try (with_reducible rfl))
  try simp only [Act.put, List.setIfInBounds_toArray, List.set_cons_zero, List.set_cons_succ]
  refine AnyTwo.take (i := 3) (oi := ⟨some 22, _, _, _, _, _⟩) (v := ?vt3) rfl (by kernel_rfl) (by kernel_rfl) (by decide +kernel) (by kernel_rfl) (by rfl) (by kernel_rfl) (fun _ _ _ h => h) (Or.inl ⟨by rfl, ?yt3⟩) hS1 ?rt3
  case yt3 => (intro w hSw; (try dsimp only at hSw); go_simp; try (with_reducible rfl))
  try simp only [Act.put, List.setIfInBounds_toArray, List.set_cons_zero, List.set_cons_succ]
  refine AnyTwo.take (i := 4) (oi := ⟨some 23, _, _, _, _, _⟩) (v := ?vt4) rfl (by kernel_rfl) (by kernel_rfl) (by decide +kernel) (by kernel_rfl) (by rfl) (by kernel_rfl) (fun _ _ _ h => h) (Or.inl ⟨by rfl, ?yt4⟩) hS1 ?rt4
  case yt4 => (intro w hSw; (try dsimp only at hSw); go_simp; try (with_reducible rfl))
  try simp only [Act.put, List.setIfInBounds_toArray, List.set_cons_zero, List.set_cons_succ]
  refine AnyTwo.take (i := 5) (oi := ⟨some 24, _, _, _, _, _⟩) (v := ?vt5) rfl (by kernel_rfl) (by kernel_rfl) (by decide +kernel) (by kernel_rfl) (by rfl) (by kernel_rfl) (fun _ _ _ h => h) (Or.inl ⟨by rfl, ?yt5⟩) hS1 ?rt5
  case yt5 => (intro w hSw; (try dsimp only at hSw); go_simp; try (with_reducible rfl))
  try simp only [Act.put, List.setIfInBounds_toArray, List.set_cons_zero, List.set_cons_succ]
  refine AnyTwo.take (i := 6) (oi := ⟨some 25, _, _, _, _, _⟩) (v := ?vt6) rfl (by kernel_rfl) (by kernel_rfl) (by decide +kernel) (by kernel_rfl) (by rfl) (by kernel_rfl) (fun _ _ _ h => h) (Or.inl ⟨by rfl, ?yt6⟩) hS1 ?rt6
  case yt6 => (intro w hSw; (try dsimp only at hSw); go_simp; try (with_reducible rfl))
  try simp only [Act.put, List.setIfInBounds_toArray, List.set_cons_zero, List.set_cons_succ]
  refine AnyTwo.take (i := 7) (oi := ⟨some 26, _, _, _, _, _⟩) (v := ?vt7) rfl (by kernel_rfl) (by kernel_rfl) (by decide +kernel) (by kernel_rfl) (by rfl) (by kernel_rfl) (fun _ _ _ h => h) (Or.inl ⟨by rfl, ?yt7⟩) hS1 ?rt7
  case yt7 => (intro w hSw; (try dsimp only at hSw); go_simp; try (with_reducible rfl))
  try simp only [Act.put, List.setIfInBounds_toArray, List.set_cons_zero, List.set_cons_succ]
  refine AnyTwo.fork (i := 8) (o := ⟨some 27, _, _, _, _, _⟩) (j := 12) (o' := ⟨some 8, _, _, _, _, _⟩) (by kernel_rfl) rfl rfl (fun K hK => ?_) (fun K hK => ?_)
  ·go_simp
   refine (HCT.out _ hS1.1).mono ?_
   rintro e w5 hp5
   obtain ⟨U, ua, uc, rfl, hb5, hs5, hU⟩ := hp5.open
   have HS5 := tuck hs5.sl
   have HU := tuck hU
   have HB5W := tuck (bAfter hS1.1 hb5)
   have hS1' : (fun w' : World => Below w1.heap.size w1 w' ∧ g < w'.heap.size ∧ w'.cell? ⟨g, 3, none⟩ = some (.slice sa qs.length cap) ∧ (w'.cell? ⟨g, 0, none⟩ = some (.int .i64 x.kind) ∧ w'.cell? ⟨g, 1, none⟩ = some (.int .i64 x.num) ∧ w'.cell? ⟨g, 2, none⟩ = some (.slice xa x.kids.length xc))) _ := HOLD.out _ (bAfter hS1.1 hb5)
   refine hK.out _ _ (ph_one (by kernel_rfl) hS1') ?_
   clear hK K hS1
   have hS1 := hS1'
   clear hS1'
   try simp only [Act.put, List.setIfInBounds_toArray, List.set_cons_zero, List.set_cons_succ]
   refine AnyTwo.take (i := 9) (oi := ⟨some 18, _, _, _, _, _⟩) (v := ?vc9) rfl (by kernel_rfl) (by kernel_rfl) (by decide +kernel) (by kernel_rfl) (by rfl) (by kernel_rfl) (fun _ _ _ h => h) (Or.inl ⟨by rfl, ?yc9⟩) hS1 ?rc9
   case yc9 => (intro w hSw; (try dsimp only at hSw); go_simp; try (with_reducible rfl))
   try simp only [Act.put, List.setIfInBounds_toArray, List.set_cons_zero, List.set_cons_succ]
   refine AnyTwo.take (i := 10) (oi := ⟨some 28, _, _, _, _, _⟩) (v := ?vc10) rfl (by kernel_rfl) (by kernel_rfl) (by decide +kernel) (by kernel_rfl) (by rfl) (by kernel_rfl) (fun _ _ _ h => h) (Or.inl ⟨by rfl, ?yc10⟩) hS1 ?rc10
   case yc10 => (intro w hSw; (try dsimp only at hSw); go_simp; try (with_reducible rfl))
   try simp only [Act.put, List.setIfInBounds_toArray, List.set_cons_zero, List.set_cons_succ]
   refine AnyTwo.take (i := 11) (oi := ⟨some 29, _, _, _, _, _⟩) (v := ?vc11) rfl (by kernel_rfl) (by kernel_rfl) (by decide +kernel) (by kernel_rfl) (by rfl) (by kernel_rfl) (fun _ _ _ h => h) (Or.inl ⟨by rfl, ?yc11⟩) hS1 ?rc11
   case yc11 => (intro w hSw; (try dsimp only at hSw); go_simp; try (with_reducible rfl))
   try simp only [Act.put, List.setIfInBounds_toArray, List.set_cons_zero, List.set_cons_succ]
   refine AnyTwo.step (i := 12) (o := ⟨some 8, _, _, _, _, _⟩) (by kernel_rfl) rfl (fun K hK => ?_)
   go_simp
   have hz5 : w1.heap.size ≤ w5.heap.size := hS1.1.size
   have HZ5 := tuck hz5
   clear hz5
   have hS1' : (fun w' : World => Below w1.heap.size w1 w' ∧ g < w'.heap.size ∧ w'.cell? ⟨g, 3, none⟩ = some (.slice sa qs.length cap) ∧ (w'.cell? ⟨g, 0, none⟩ = some (.int .i64 x.kind) ∧ w'.cell? ⟨g, 1, none⟩ = some (.int .i64 x.num) ∧ w'.cell? ⟨g, 2, none⟩ = some (.slice xa x.kids.length xc))) _ := HOLD.out _ (bAfter hS1.1 (below1 w5 (.cells #[.int .i64 0, .int .i64 0, .slice none 0 0] 34)))
   refine hK.out _ _ (ph_one (by kernel_rfl) hS1') ?_
   clear hK K hS1
   have hS1 := hS1'
   clear hS1'
   try simp only [Act.put, List.setIfInBounds_toArray, List.set_cons_zero, List.set_cons_succ]
   refine AnyTwo.step (i := 13) (o := ⟨none, _, _, _, _, _⟩) (by kernel_rfl) rfl (fun K hK => ?_)
   go_simp
   have HBX := tuck (bAfter (show Below w1.heap.size w1 w5 from HB5W.out) (below1 w5 (.cells #[.int .i64 U.kind, .int .i64 U.num, .slice ua U.kids.length uc] 34)))
   have hS1' : (fun w' : World => Below w1.heap.size w1 w' ∧ g < w'.heap.size ∧ w'.cell? ⟨g, 3, none⟩ = some (.slice sa qs.length cap) ∧ (w'.cell? ⟨g, 0, none⟩ = some (.int .i64 x.kind) ∧ w'.cell? ⟨g, 1, none⟩ = some (.int .i64 x.num) ∧ w'.cell? ⟨g, 2, none⟩ = some (.slice xa x.kids.length xc))) _ := HOLD.out _ HBX.out
   refine hK.out _ _ (ph_one (by kernel_rfl) hS1') ?_
   clear hK K hS1
   have hS1 := hS1'
   clear hS1'
   try simp only [Act.put, List.setIfInBounds_toArray, List.set_cons_zero, List.set_cons_succ]
   refine AnyTwo.step (i := 14) (o := ⟨some 7, _, _, _, _, _⟩) (by kernel_rfl) rfl (fun K hK => ?_)
   go_simp
   refine hK.out _ _ (ph_end (by kernel_rfl) trivial) ?_
   clear hK K
   try simp only [Act.put, List.setIfInBounds_toArray, List.set_cons_zero, List.set_cons_succ]
   refine AnyTwo.done (by kernel_rfl) ?_ _
   go_wp2_with fail
   go_meet
   exact ⟨w5.heap.size, U, ua, uc, rfl, rfl, HBX.out, VarAt.new w5 U.kind U.num (.slice ua U.kids.length uc), HZ5.out, HS5.out.below (below1 w5 (.cells #[.int .i64 U.kind, .int .i64 U.num, .slice ua U.kids.length uc] 34)), HU.out⟩
  ·go_simp
   have HZA := tuck (show VarAt w1.heap.size 0 0 (.slice none 0 0) (w1.alloc (.cells #[.int .i64 0, .int .i64 0, .slice none 0 0] 34)).drew from VarAt.new w1 0 0 (.slice none 0 0))
   have hS1' : (fun w' : World => Below w1.heap.size w1 w' ∧ g < w'.heap.size ∧ w'.cell? ⟨g, 3, none⟩ = some (.slice sa qs.length cap) ∧ (w'.cell? ⟨g, 0, none⟩ = some (.int .i64 x.kind) ∧ w'.cell? ⟨g, 1, none⟩ = some (.int .i64 x.num) ∧ w'.cell? ⟨g, 2, none⟩ = some (.slice xa x.kids.length xc))) _ := HOLD.out _ (below1 w1 (.cells #[.int .i64 0, .int .i64 0, .slice none 0 0] 34)).drew
   refine hK.out _ _ (ph_one (by kernel_rfl) hS1') ?_
   clear hK K hS1
   have hS1 := hS1'
   clear hS1'
   try simp only [Act.put, List.setIfInBounds_toArray, List.set_cons_zero, List.set_cons_succ]
   refine AnyTwo.step (i := 8) (o := ⟨some 27, _, _, _, _, _⟩) (by kernel_rfl) rfl (fun K hK => ?_)
   go_simp
   refine (HCT.out _ hS1.1).mono ?_
   rintro e w5 hp5
   obtain ⟨U, ua, uc, rfl, hb5, hs5, hU⟩ := hp5.open
   have HS5X := tuck hs5
   have HU := tuck hU
   have HZB := tuck (HZA.out.below hb5)
   have HB5W := tuck (bAfter hS1.1 hb5)
   have HGL : Hid (w1.heap.size < w5.heap.size) := tuck HZB.out.facts.1
   obtain ⟨zz, y0, y1, y2, yf⟩ := HZB.out.facts
   have hS1' : (fun w' : World => Below w1.heap.size w1 w' ∧ g < w'.heap.size ∧ w'.cell? ⟨g, 3, none⟩ = some (.slice sa qs.length cap) ∧ (w'.cell? ⟨g, 0, none⟩ = some (.int .i64 x.kind) ∧ w'.cell? ⟨g, 1, none⟩ = some (.int .i64 x.num) ∧ w'.cell? ⟨g, 2, none⟩ = some (.slice xa x.kids.length xc))) _ := HOLD.out _ (bAfter hS1.1 hb5)
   refine hK.out _ _ (ph_one (by kernel_rfl) hS1') ?_
   clear hK K hS1
   have hS1 := hS1'
   clear hS1'
   try simp only [Act.put, List.setIfInBounds_toArray, List.set_cons_zero, List.set_cons_succ]
   refine AnyTwo.take (i := 9) (oi := ⟨some 18, _, _, _, _, _⟩) (v := ?va9) rfl (by kernel_rfl) (by kernel_rfl) (by decide +kernel) (by kernel_rfl) (by rfl) (by kernel_rfl) (fun _ _ _ h => h) (Or.inl ⟨by rfl, ?ya9⟩) hS1 ?ra9
   case ya9 => (intro w hSw; (try dsimp only at hSw); go_simp; try (with_reducible rfl))
   try simp only [Act.put, List.setIfInBounds_toArray, List.set_cons_zero, List.set_cons_succ]
   refine AnyTwo.take (i := 10) (oi := ⟨some 28, _, _, _, _, _⟩) (v := ?va10) rfl (by kernel_rfl) (by kernel_rfl) (by decide +kernel) (by kernel_rfl) (by rfl) (by kernel_rfl) (fun _ _ _ h => h) (Or.inl ⟨by rfl, ?ya10⟩) hS1 ?ra10
   case ya10 => (intro w hSw; (try dsimp only at hSw); go_simp; try (with_reducible rfl))
   try simp only [Act.put, List.setIfInBounds_toArray, List.set_cons_zero, List.set_cons_succ]
   refine AnyTwo.take (i := 11) (oi := ⟨some 29, _, _, _, _, _⟩) (v := ?va11) rfl (by kernel_rfl) (by kernel_rfl) (by decide +kernel) (by kernel_rfl) (by rfl) (by kernel_rfl) (fun _ _ _ h => h) (Or.inl ⟨by rfl, ?ya11⟩) hS1 ?ra11
   case ya11 => (intro w hSw; (try dsimp only at hSw); go_simp; try (with_reducible rfl))
   try simp only [Act.put, List.setIfInBounds_toArray, List.set_cons_zero, List.set_cons_succ]
   refine AnyTwo.step (i := 13) (o := ⟨none, _, _, _, _, _⟩) (by kernel_rfl) rfl (fun K hK => ?_)
   go_simp
   have hS1' : (fun w' : World => Below w1.heap.size w1 w' ∧ g < w'.heap.size ∧ w'.cell? ⟨g, 3, none⟩ = some (.slice sa qs.length cap) ∧ (w'.cell? ⟨g, 0, none⟩ = some (.int .i64 x.kind) ∧ w'.cell? ⟨g, 1, none⟩ = some (.int .i64 x.num) ∧ w'.cell? ⟨g, 2, none⟩ = some (.slice xa x.kids.length xc))) _ := HOLD.out _ (bSet3 HB5W.out (Nat.le_refl _) 0 1 2 (.int .i64 U.kind) (.int .i64 U.num) (.slice ua U.kids.length uc))
   refine hK.out _ _ (ph_one (by kernel_rfl) hS1') ?_
   clear hK K hS1
   have hS1 := hS1'
   clear hS1'
   try simp only [Act.put, List.setIfInBounds_toArray, List.set_cons_zero, List.set_cons_succ]
   refine AnyTwo.step (i := 14) (o := ⟨some 7, _, _, _, _, _⟩) (by kernel_rfl) rfl (fun K hK => ?_)
   go_simp
   refine hK.out _ _ (ph_end (by kernel_rfl) trivial) ?_
   clear hK K
   try simp only [Act.put, List.setIfInBounds_toArray, List.set_cons_zero, List.set_cons_succ]
   refine AnyTwo.done (by kernel_rfl) ?_ _
   go_wp2_with fail
   go_meet
   exact ⟨w1.heap.size, U, ua, uc, rfl, rfl, bSet3 HB5W.out (Nat.le_refl _) _ _ _ _ _ _, HZB.out.set3, Nat.le_refl _, (HS5X.out.set3 (g := w1.heap.size) ⟨rfl, by simp⟩ _ _ _ _ _ _).sl, HU.out⟩
 case rest =>
  obtain ⟨gz, U, ua, uc, rfl, rfl, hbw, hvz, hgz, hsu, hU⟩ := hcut
  rename World => W8
  have HB8 := tuck (bAfter HB1.out hbw)
  have HR8 := tuck (HR1.out.below hbw)
  have HVZ := tuck hvz
  have HSU := tuck hsu
  by_cases hca : CA
  ·have hY := HKA.out.1.2 hca
   have hYV := HKA.out.2 hca
   obtain rfl := hU hca
   rw [tr_of hca]
   have HCC := tuck (HCL.out hYV _ _ HSU.out)
   have HYY := tuck (HYES.out hY)
   obtain ⟨zz, y0, y1, y2, yf⟩ := HVZ.out.facts
   clear hU hbw hvz hsu hY hYV HCL HYES HNO HKA
   go_wp2_with fail
   refine HCC.out.mono ?_
   rintro e w9 ⟨hb9, v9, rfl, s9, F, rfl, hs9, hn9, hF9⟩
   obtain ⟨qa, qc, rfl⟩ := hs9.form
   obtain ⟨z1, r0, r1, r2, rf⟩ := (HR8.out.below hb9).facts
   have HZ := tuck (show w.heap.size + 1 < _ from HR8.out.facts.1)
   go_wp2_with fail
   refine bodyPost_ret (v := .tuple #[.agg #[.int .i64 U.kind, .int .i64 U.num, .slice qa U.kids.length qc], .bool true]) (by simp [results, Tryz.results20, go_sem, *]) rfl (HYY.out _ _ F ?_ ?_ hn9 (fun g hg => ?_))
   ·exact bSet3 (bAfter HB8.out hb9) (by omega) _ _ _ _ _ _
   ·exact hs9.set3 (fun h => by have := (hF9 _ h).1; have := HZ.out; omega) _ _ _ _ _ _
   ·rw [size_set3]
    have h1 := hF9 g hg
    have h2 := HB8.out.size
    omega
  ·rw [tr_not hca]
   obtain ⟨z1, r0, r1, r2, rf⟩ := HR8.out.facts
   have HN := tuck (HNO.out (fun h => hca (HKA.out.1.1 h)))
   clear hU hbw hvz hsu HCL HYES HNO HKA
   go_wp2_with fail
   refine bodyPost_ret (v := .tuple #[.agg #[.int .i64 0, .int .i64 0, .slice none 0 0], .bool false]) (by simp [results, Tryz.results20, go_sem, *]) rfl (HN.out _ ?_)
   exact bSet3 HB8.out (by omega) _ _ _ _ _ _
end Go.Proofs.YtpddjebdncaceaaGreat
