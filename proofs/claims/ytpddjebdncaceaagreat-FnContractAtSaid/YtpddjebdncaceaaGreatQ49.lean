/-
  PlM.
-/
import Derived.Test.YtpddjebdncaceaaGreatQ14
import Derived.Test.YtpddjebdncaceaaGreatQ35
import Derived.Test.YtpddjebdncaceaaGreatQ37
import Derived.Test.YtpddjebdncaceaaGreatQ40
import Derived.Deep.DeepCutAuto
namespace Go.Proofs.YtpddjebdncaceaaGreat
open Go.RowKit
theorem kidT_size (t : Tm) (i : Nat) : (kidT t i).size ≤ t.size := by
 by_cases hi : i < t.kids.length
 ·rw [kidT_eq hi]
  have h1 := size_get_le t.kids i hi
  have h2 := t.size_eq
  omega
 ·have e : kidT t i = zeroT := by
   unfold kidT
   rw [List.getD_eq_getElem?_getD, List.getElem?_eq_none (by omega)]
   rfl
  rw [e]
  have h1 := t.size_pos
  have h2 : zeroT.size = 1 := by simp [zeroT, Tm.size, sizes]
  omega
theorem subst_bound {A B : Tm} (hA : A.Valid) (hB : B.Valid) : (A.subst B 0 0).size ≤ 170000 := by
 have h1 := Tm.subst_size B A 0 0 hA.1
 obtain ⟨h2, h3⟩ := A.times_bd 0
 have h4 := hA.2.2
 have h5 := hB.2.2
 have h6 := B.size_pos
 have h7 : A.times 0 * ((B.size : Int) - 1) ≤ 400 * 400 := Int.mul_le_mul (by omega) (by omega) (by omega) (by omega)
 omega
theorem contr_size {t : Tm} (h : t.Valid) (h0 : t.redex ≠ 0) : t.contr.size ≤ 170000 := by
 have hs := h.2.2
 have k0 := kidT_size t 0
 have k1 := kidT_size t 1
 have k2 := kidT_size t 2
 have k3 := kidT_size t 3
 have k01 := kidT_size (kidT t 0) 1
 have k02 := kidT_size (kidT t 0) 2
 have k30 := kidT_size (kidT t 3) 0
 by_cases h1 : t.redex = 1
 ·rcases redex_shape h.root h0 with ⟨e, hkd, hl, hm⟩ | ⟨e, -⟩ | ⟨e, -⟩ | ⟨e, -⟩ | ⟨e, -⟩ | ⟨e, -⟩
  ·have hv0 := h.kidT (i := 0) (by omega)
   have hv1 := h.kidT (i := 1) (by omega)
   have hv01 := hv0.kidT (i := 1) (by have := kid_len hv0.root hm (a := 2) (by decide); omega)
   unfold Tm.contr
   rw [if_pos h1]
   exact subst_bound hv01 hv1
  all_goals omega
 ·unfold Tm.contr
  rw [if_neg h1]
  split
  ·omega
  split
  ·simp only [Tm.size, sizes]
   omega
  split
  ·omega
  split
  ·omega
  ·omega
def ContrAt (t : Tm) (N : Int → Int) (len : Nat) : Prop := IsPlace t N len ∧ (wayT t N len).redex ≠ 0 ∧ (around (wayP t N len) (wayT t N len).contr).Valid
def contrAt (t : Tm) (N : Int → Int) (len : Nat) : Tm := around (wayP t N len) (wayT t N len).contr
set_option maxRecDepth 100000 in
set_option maxHeartbeats 1600000 in
theorem contractAtS_any (t : Tm) (N : Int → Int) (len : Nat) (hlen : len ≤ 1048576) (w : World) (vt vp : Value) (ht : TmIn w 0 t vt) (hp : IntsC w 0 N len vp) :
  Calls Tryz.prog 21 #[vt, vp] w (TlRes w (ContrAt t N len) (contrAt t N len)) := by
 obtain ⟨s, rfl, hs⟩ := ht
 obtain ⟨a, c, rfl⟩ := hs.form
 obtain ⟨pa, pc, rfl⟩ := hp.form
 have HAT := tuck (fun W (h1 : SlIn W 0 t.kids (.slice a t.kids.length c)) (h2 : IntsC W 0 N len (.slice pa len pc)) => termAtS_any t N len hlen W _ _ ⟨_, rfl, h1⟩ h2.ints)
 have HNO : Hid (¬ ContrAt t N len → ∀ w', Below w.heap.size w w' → TlRes w (ContrAt t N len) (contrAt t N len) (.returned (.tuple #[.agg #[I6 0, I6 0, .slice none 0 0], .bool false])) w') := tuck fun h w' hb => TlRes.no h hb
 have HYES : Hid (ContrAt t N len → ∀ w' a c, Below w.heap.size w w' → SlIn w' w.heap.size (contrAt t N len).kids (.slice a (contrAt t N len).kids.length c) → TlRes w (ContrAt t N len) (contrAt t N len) (.returned (.tuple #[.agg #[I6 (contrAt t N len).kind, I6 (contrAt t N len).num, .slice a (contrAt t N len).kids.length c], .bool true])) w') := tuck fun h w' a c hb hs => TlRes.yes h hb hs
 generalize TlRes w (ContrAt t N len) (contrAt t N len) = post at *
 have HS := tuck hs
 have HP := tuck hp
 have HBT := tuck ((VarAt.new w t.kind t.num (.slice a t.kids.length c)).below (below1 _ (.cells #[I6 0, I6 0, .slice none 0 0] 34)))
 have HBR := tuck (var_new1 w (.cells #[I6 t.kind, I6 t.num, .slice a t.kids.length c] 34) 0 0 (.slice none 0 0))
 have HB0 := tuck (below2 w (.cells #[I6 t.kind, I6 t.num, .slice a t.kids.length c] 34) (.cells #[I6 0, I6 0, .slice none 0 0] 34))
 clear hs hp
 obtain ⟨z, d0, d1, d2, df⟩ := HBT.out.facts
 go_enter Tryz.func21, Tryz.ntmps21
 go_wp2_with fail
 generalize (w.alloc (.cells #[I6 t.kind, I6 t.num, .slice a t.kids.length c] 34)).alloc (.cells #[I6 0, I6 0, .slice none 0 0] 34) = W0 at *
 refine (HAT.out W0 (HS.out.below HB0.out) (HP.out.below HB0.out)).mono ?_
 rintro e w1 ⟨hb1, ya, yc, rfl, hx1⟩
 have HB1 := tuck (bAfter HB0.out hb1)
 have HT1 := tuck (HBT.out.below hb1)
 have HR1 := tuck (HBR.out.below hb1)
 have HX1 := tuck (SlIn.mono (B' := 0) hx1 (Nat.zero_le _))
 clear z d0 d1 d2 df hb1 HAT HBT HBR HB0 hx1
 by_cases hpl : IsPlace t N len
 rotate_left
 ·rw [tr_not hpl]
  generalize orZero (IsPlace t N len) (wayT t N len) = R at *
  have hbx := below1 w1 (.cells #[I6 R.kind, I6 R.num, .slice ya R.kids.length yc] 34)
  have HB2 := tuck (bAfter HB1.out hbx)
  obtain ⟨z1, r0, r1, r2, rf⟩ := (HR1.out.below hbx).facts
  clear hbx
  go_wp2_with fail
  refine bodyPost_ret (v := .tuple #[.agg #[I6 0, I6 0, .slice none 0 0], .bool false]) (by simp [results, Tryz.results21, go_sem, *]) rfl (HNO.out (fun h => hpl h.1) _ ?_)
  exact bSet3 HB2.out (by omega) _ _ _ _ _ _
 rw [tr_of hpl]
 have hor : orZero (IsPlace t N len) (wayT t N len) = wayT t N len := by unfold orZero; rw [if_pos hpl]
 rw [hor] at HX1 ⊢
 have hk := hpl.ok
 have HRD := tuck (fun W (h : SlIn W 0 (wayT t N len).kids (.slice ya (wayT t N len).kids.length yc)) => redS_any (wayT t N len) hk.valid.root W _ h)
 have hbx := below1 w1 (.cells #[I6 (wayT t N len).kind, I6 (wayT t N len).num, .slice ya (wayT t N len).kids.length yc] 34)
 have HB2 := tuck (bAfter HB1.out hbx)
 have HT2 := tuck (HT1.out.below hbx)
 have HR2 := tuck (HR1.out.below hbx)
 have HX2 := tuck (HX1.out.below hbx)
 have HG2 := tuck (VarAt.new w1 (wayT t N len).kind (wayT t N len).num (.slice ya (wayT t N len).kids.length yc))
 have HK : Hid (Known t N len (wayP t N len) (wayT t N len)) := tuck hk
 have hcsz : (wayT t N len).redex ≠ 0 → sizes (wayT t N len).contr.kids ≤ 1000000 := fun hr => by
  have h1 := contr_size hk.valid hr
  have h2 := (wayT t N len).contr.size_eq
  omega
 have HCO : Hid ((wayT t N len).redex ≠ 0 → ∀ W, SlIn W 0 (wayT t N len).kids (.slice ya (wayT t N len).kids.length yc) → Calls Tryz.prog 50 #[.agg #[I6 (wayT t N len).kind, I6 (wayT t N len).num, .slice ya (wayT t N len).kids.length yc]] W (SPost W (wayT t N len).contr)) := tuck fun h W hs => lcontract_any _ hk.valid.root (fun i hi => hk.valid.get hi) h W _ hs
 have HPU : Hid ((wayT t N len).redex ≠ 0 → ∀ W (us : Value), SlIn W 0 t.kids (.slice a t.kids.length c) → IntsC W 0 N len (.slice pa len pc) → SlIn W 0 (wayT t N len).contr.kids us → Calls Tryz.prog 49 #[.agg #[I6 t.kind, I6 t.num, .slice a t.kids.length c], .slice pa len pc, .agg #[I6 (wayT t N len).contr.kind, I6 (wayT t N len).contr.num, us]] W (TlPost W (contrAt t N len))) := tuck fun hr W us h1 h2 h3 =>
  l8put_any (wayT t N len).contr (hcsz hr) (wayP t N len) t (wayT t N len) N W _ _ _ hk.chain hpl.1 hk.ix (by have := (hk.short hpl.1).2; omega) h1 (by rw [hk.len]; exact h2) h3
 have hka : ContrAt t N len ↔ ((wayT t N len).redex ≠ 0 ∧ (contrAt t N len).Valid) := ⟨fun h => h.2, fun h => ⟨hpl, h⟩⟩
 obtain ⟨z, d0, d1, d2, df⟩ := HG2.out.facts
 clear hbx HB1 HT1 HR1 HX1 hor hcsz hk HK
 generalize wayT t N len = x at *
 go_wp2_with fail
 generalize w1.alloc (.cells #[I6 x.kind, I6 x.num, .slice ya x.kids.length yc] 34) = W2 at *
 generalize w1.heap.size = g2 at *
 refine (HRD.out _ HX2.out).mono ?_
 rintro e W3 ⟨rfl, hb3⟩
 have HB3 := tuck (bAfter HB2.out hb3)
 have HT3 := tuck (HT2.out.below hb3)
 have HR3 := tuck (HR2.out.below hb3)
 have HG3 := tuck (HG2.out.below hb3)
 have HX3 := tuck (HX2.out.below hb3)
 clear z d0 d1 d2 df hb3 HB2 HT2 HR2 HG2 HX2 HRD
 by_cases h0 : x.redex = 0
 ·rw [h0]
  obtain ⟨z1, r0, r1, r2, rf⟩ := HR3.out.facts
  go_wp2_with fail
  refine bodyPost_ret (v := .tuple #[.agg #[I6 0, I6 0, .slice none 0 0], .bool false]) (by simp [results, Tryz.results21, go_sem, *]) rfl (HNO.out (fun h => (hka.1 h).1 h0) _ ?_)
  exact bSet3 HB3.out (by omega) _ _ _ _ _ _
 have hred : (x.redex == 0) = false := by simpa using h0
 have HC : Hid (∀ W, Below W3.heap.size W3 W → Calls Tryz.prog 50 #[.agg #[I6 x.kind, I6 x.num, .slice ya x.kids.length yc]] W (SPost W x.contr)) := tuck fun W hW => HCO.out h0 W (HX3.out.below hW)
 have HPUT : Hid (∀ W (us : Value), Below W3.heap.size W3 W → SlIn W 0 x.contr.kids us → Calls Tryz.prog 49 #[.agg #[I6 t.kind, I6 t.num, .slice a t.kids.length c], .slice pa len pc, .agg #[I6 x.contr.kind, I6 x.contr.num, us]] W (TlPost W (contrAt t N len))) := tuck fun W us hW h => HPU.out h0 W us (HS.out.below (bAfter HB3.out hW)) (HP.out.below (bAfter HB3.out hW)) h
 have HOLD : Hid (∀ w', Below W3.heap.size W3 w' → (fun w' : World => Below W3.heap.size W3 w' ∧ (w.heap.size < w'.heap.size ∧ g2 < w'.heap.size) ∧ (w'.cell? ⟨w.heap.size, 0, none⟩ = some (I6 t.kind) ∧ w'.cell? ⟨w.heap.size, 1, none⟩ = some (I6 t.num) ∧ w'.cell? ⟨w.heap.size, 2, none⟩ = some (.slice a t.kids.length c)) ∧ (w'.cell? ⟨g2, 0, none⟩ = some (I6 x.kind) ∧ w'.cell? ⟨g2, 1, none⟩ = some (I6 x.num) ∧ w'.cell? ⟨g2, 2, none⟩ = some (.slice ya x.kids.length yc))) w') := tuck fun w' h => ⟨h, ⟨(HT3.out.below h).facts.1, (HG3.out.below h).facts.1⟩, ⟨(HT3.out.below h).facts.2.1, (HT3.out.below h).facts.2.2.1, (HT3.out.below h).facts.2.2.2.1⟩, ⟨(HG3.out.below h).facts.2.1, (HG3.out.below h).facts.2.2.1, (HG3.out.below h).facts.2.2.2.1⟩⟩
 have HKA : Hid (ContrAt t N len ↔ (contrAt t N len).Valid) := tuck ⟨fun h => (hka.1 h).2, fun h => hka.2 ⟨h0, h⟩⟩
 clear hka HCO HPU h0
 generalize contrAt t N len = Y at *
 generalize x.contr = C at *
 generalize x.redex = rd at *
 go_upto_region 4 with fail
 refine AnyTwo.begin (fun w' : World => Below W3.heap.size W3 w' ∧ (w.heap.size < w'.heap.size ∧ g2 < w'.heap.size) ∧ (w'.cell? ⟨w.heap.size, 0, none⟩ = some (I6 t.kind) ∧ w'.cell? ⟨w.heap.size, 1, none⟩ = some (I6 t.num) ∧ w'.cell? ⟨w.heap.size, 2, none⟩ = some (.slice a t.kids.length c)) ∧ (w'.cell? ⟨g2, 0, none⟩ = some (I6 x.kind) ∧ w'.cell? ⟨g2, 1, none⟩ = some (I6 x.num) ∧ w'.cell? ⟨g2, 2, none⟩ = some (.slice ya x.kids.length yc))) (fun _ => True) 8 (by kernel_rfl) ?_
 have hS1 : (fun w' : World => Below W3.heap.size W3 w' ∧ (w.heap.size < w'.heap.size ∧ g2 < w'.heap.size) ∧ (w'.cell? ⟨w.heap.size, 0, none⟩ = some (I6 t.kind) ∧ w'.cell? ⟨w.heap.size, 1, none⟩ = some (I6 t.num) ∧ w'.cell? ⟨w.heap.size, 2, none⟩ = some (.slice a t.kids.length c)) ∧ (w'.cell? ⟨g2, 0, none⟩ = some (I6 x.kind) ∧ w'.cell? ⟨g2, 1, none⟩ = some (I6 x.num) ∧ w'.cell? ⟨g2, 2, none⟩ = some (.slice ya x.kids.length yc))) _ := HOLD.out _ (Below.refl _ _).drew
 refine AnyTwo.take (i := 0) (oi := ⟨some 22, _, _, _, _, _⟩) (v := ?vr0) rfl (by kernel_rfl) (by kernel_rfl) (by decide +kernel) (by kernel_rfl) (by rfl) (by kernel_rfl) (fun _ _ _ h => h) (Or.inl ⟨by rfl, ?yr0⟩) hS1 ?rr0
 case yr0 => (intro w hSw; (try dsimp only at hSw); go_simp; try (with_reducible rfl))
 try simp only [pts]
 refine AnyTwo.take (i := 1) (oi := ⟨some 23, _, _, _, _, _⟩) (v := ?vr1) rfl (by kernel_rfl) (by kernel_rfl) (by decide +kernel) (by kernel_rfl) (by rfl) (by kernel_rfl) (fun _ _ _ h => h) (Or.inl ⟨by rfl, ?yr1⟩) hS1 ?rr1
 case yr1 => (intro w hSw; (try dsimp only at hSw); go_simp; try (with_reducible rfl))
 try simp only [pts]
 refine AnyTwo.take (i := 2) (oi := ⟨some 24, _, _, _, _, _⟩) (v := ?vr2) rfl (by kernel_rfl) (by kernel_rfl) (by decide +kernel) (by kernel_rfl) (by rfl) (by kernel_rfl) (fun _ _ _ h => h) (Or.inl ⟨by rfl, ?yr2⟩) hS1 ?rr2
 case yr2 => (intro w hSw; (try dsimp only at hSw); go_simp; try (with_reducible rfl))
 try simp only [pts]
 refine AnyTwo.step (i := 3) (o := ⟨some 25, _, _, _, _, _⟩) (by kernel_rfl) rfl (fun K hK => ?_)
 go_simp
 refine (HC.out _ hS1.1).mono ?_
 rintro e w5 hsp
 obtain ⟨ka, kc, rfl, hb5, hk5⟩ := hsp.open
 have HK5 := tuck (SlIn.mono (B' := 0) hk5 (Nat.zero_le _))
 have hS1' : (fun w' : World => Below W3.heap.size W3 w' ∧ (w.heap.size < w'.heap.size ∧ g2 < w'.heap.size) ∧ (w'.cell? ⟨w.heap.size, 0, none⟩ = some (I6 t.kind) ∧ w'.cell? ⟨w.heap.size, 1, none⟩ = some (I6 t.num) ∧ w'.cell? ⟨w.heap.size, 2, none⟩ = some (.slice a t.kids.length c)) ∧ (w'.cell? ⟨g2, 0, none⟩ = some (I6 x.kind) ∧ w'.cell? ⟨g2, 1, none⟩ = some (I6 x.num) ∧ w'.cell? ⟨g2, 2, none⟩ = some (.slice ya x.kids.length yc))) _ := HOLD.out _ (bAfter hS1.1 hb5)
 refine hK.out _ _ (ph_one (by kernel_rfl) hS1') ?_
 clear hK K hS1
 have hS1 := hS1'
 clear hS1'
 try simp only [pts]
 refine AnyTwo.step (i := 4) (o := ⟨some 26, _, _, _, _, _⟩) (by kernel_rfl) rfl (fun K hK => ?_)
 go_simp
 refine (HPUT.out _ _ hS1.1 HK5.out).mono ?_
 rintro e w6 ⟨hb6, ja, jc, rfl, hj6⟩
 have HJ6 := tuck (SlIn.mono hj6 (show W3.heap.size ≤ _ from hS1.1.size))
 have hS1' : (fun w' : World => Below W3.heap.size W3 w' ∧ (w.heap.size < w'.heap.size ∧ g2 < w'.heap.size) ∧ (w'.cell? ⟨w.heap.size, 0, none⟩ = some (I6 t.kind) ∧ w'.cell? ⟨w.heap.size, 1, none⟩ = some (I6 t.num) ∧ w'.cell? ⟨w.heap.size, 2, none⟩ = some (.slice a t.kids.length c)) ∧ (w'.cell? ⟨g2, 0, none⟩ = some (I6 x.kind) ∧ w'.cell? ⟨g2, 1, none⟩ = some (I6 x.num) ∧ w'.cell? ⟨g2, 2, none⟩ = some (.slice ya x.kids.length yc))) _ := HOLD.out _ (bAfter hS1.1 hb6)
 refine hK.out _ _ (ph_one (by kernel_rfl) hS1') ?_
 clear hK K hS1
 have hS1 := hS1'
 clear hS1'
 try simp only [pts]
 refine AnyTwo.step (i := 5) (o := ⟨some 27, _, _, _, _, _⟩) (by kernel_rfl) rfl (fun K hK => ?_)
 go_simp
 refine (madeS_any Y w6 _ (HJ6.out.mono (Nat.zero_le _))).mono ?_
 rintro e w7 ⟨hb7, hres⟩
 have HB6 := tuck (bAfter HB3.out hS1.1)
 obtain ⟨z1, r0, r1, r2, rf⟩ := (HR3.out.below (bAfter hS1.1 hb7)).facts
 have HRES : Hid ((Y.Valid ∧ _) ∨ (¬ Y.Valid ∧ _)) := tuck hres
 obtain ⟨v7, b7, hv7, HV7⟩ : ∃ (v7 : Value) (b7 : Bool), e = .returned (.tuple #[v7, .bool b7]) ∧ Hid ((Y.Valid ∧ v7 = .agg #[I6 Y.kind, I6 Y.num, .slice ja Y.kids.length jc] ∧ b7 = true) ∨ (¬ Y.Valid ∧ v7 = .agg #[I6 0, I6 0, .slice none 0 0] ∧ b7 = false)) := by
  rcases hres with ⟨h1, h2⟩ | ⟨h1, h2⟩
  ·exact ⟨_, _, h2, Or.inl ⟨h1, rfl, rfl⟩⟩
  ·exact ⟨_, _, h2, Or.inr ⟨h1, rfl, rfl⟩⟩
 subst hv7
 obtain ⟨k7, n7, a7, l7, c7, rfl⟩ : ∃ (k7 n7 : Int) (a7 : Option Addr) (l7 c7 : Nat), v7 = .agg #[I6 k7, I6 n7, .slice a7 l7 c7] := by
  rcases HV7 with ⟨-, rfl, -⟩ | ⟨-, rfl, -⟩
  ·exact ⟨_, _, _, _, _, rfl⟩
  ·exact ⟨_, _, _, _, _, rfl⟩
 clear hres HRES
 have hS1' : (fun w' : World => Below W3.heap.size W3 w' ∧ (w.heap.size < w'.heap.size ∧ g2 < w'.heap.size) ∧ (w'.cell? ⟨w.heap.size, 0, none⟩ = some (I6 t.kind) ∧ w'.cell? ⟨w.heap.size, 1, none⟩ = some (I6 t.num) ∧ w'.cell? ⟨w.heap.size, 2, none⟩ = some (.slice a t.kids.length c)) ∧ (w'.cell? ⟨g2, 0, none⟩ = some (I6 x.kind) ∧ w'.cell? ⟨g2, 1, none⟩ = some (I6 x.num) ∧ w'.cell? ⟨g2, 2, none⟩ = some (.slice ya x.kids.length yc))) _ := HOLD.out _ (bAfter hS1.1 hb7)
 refine hK.out _ _ (ph_one (by kernel_rfl) hS1') ?_
 clear hK K hS1
 have hS1 := hS1'
 clear hS1'
 try simp only [pts]
 refine AnyTwo.take (i := 6) (oi := ⟨some 28, _, _, _, _, _⟩) (v := ?vr6) rfl (by kernel_rfl) (by kernel_rfl) (by decide +kernel) (by kernel_rfl) (by rfl) (by kernel_rfl) (fun _ _ _ h => h) (Or.inl ⟨by rfl, ?yr6⟩) hS1 ?rr6
 case yr6 => (intro w hSw; (try dsimp only at hSw); go_simp; try (with_reducible rfl))
 try simp only [pts]
 refine AnyTwo.take (i := 7) (oi := ⟨some 29, _, _, _, _, _⟩) (v := ?vr7) rfl (by kernel_rfl) (by kernel_rfl) (by decide +kernel) (by kernel_rfl) (by rfl) (by kernel_rfl) (fun _ _ _ h => h) (Or.inl ⟨by rfl, ?yr7⟩) hS1 ?rr7
 case yr7 => (intro w hSw; (try dsimp only at hSw); go_simp; try (with_reducible rfl))
 try simp only [pts]
 refine AnyTwo.step (i := 8) (o := ⟨none, _, _, _, _, _⟩) (by kernel_rfl) rfl (fun K hK => ?_)
 go_simp
 refine hK.out _ _ (ph_end (by kernel_rfl) trivial) ?_
 clear hK K
 try simp only [pts]
 refine AnyTwo.step (i := 9) (o := ⟨some 5, _, _, _, _, _⟩) (by kernel_rfl) rfl (fun K hK => ?_)
 go_simp
 refine hK.out _ _ (ph_end (by kernel_rfl) trivial) ?_
 clear hK K
 try simp only [pts]
 refine AnyTwo.done (by kernel_rfl) ?_ _
 go_wp2_with fail
 refine bodyPost_ret (v := .tuple #[.agg #[I6 k7, I6 n7, .slice a7 l7 c7], .bool b7]) (by simp [results, Tryz.results21, go_sem, *]) rfl ?_
 rcases HV7 with ⟨hyv, he, rfl⟩ | ⟨hyv, he, rfl⟩
 ·rw [he]
  refine HYES.out (HKA.out.2 hyv) _ ja jc ?_ ?_
  ·exact bSet3 (bAfter HB3.out (hS1.1)) (by omega) _ _ _ _ _ _
  ·exact SlIn.mono (tl_sl3 (HJ6.out.below hb7) (show w.heap.size + 1 < _ from HR3.out.facts.1)) HB3.out.size
 ·rw [he]
  refine HNO.out (fun h => hyv (HKA.out.1 h)) _ ?_
  exact bSet3 (bAfter HB3.out (hS1.1)) (by omega) _ _ _ _ _ _
set_option maxRecDepth 100000 in
set_option maxHeartbeats 1600000 in
theorem scontractN_any (w : World) (X : Nat → Prop) (hX : ∀ i, X i → i < w.heap.size) (sa : Option Addr) (m cap : Nat) (t : Tm) (hr : t.rootOk) (hk : ∀ i (hi : i < t.kids.length), t.kids[i].Valid) (hn : ¬ (t.redex ≠ 0 ∧ t.contr.Valid)) (s : Value) (hs : SlX w X t.kids s) :
  Calls Tryz.prog 44 #[.slice sa m cap, .agg #[I6 t.kind, I6 t.num, s]] w (fun e w' => Below w.heap.size w w' ∧ e = .returned (.tuple #[.agg #[I6 0, I6 0, .slice none 0 0], .bool false])) := by
 obtain ⟨a, c, rfl⟩ := hs.form
 have hb2 := below2 w (.cells #[I6 t.kind, I6 t.num, .slice a t.kids.length c] 34) (.cells #[I6 0, I6 0, .slice none 0 0] 34)
 have HV0 := tuck ((VarAt.new w t.kind t.num (.slice a t.kids.length c)).below (below1 _ (.cells #[I6 0, I6 0, .slice none 0 0] 34)))
 have HV1 := tuck (var_new1 w (.cells #[I6 t.kind, I6 t.num, .slice a t.kids.length c] 34) 0 0 (.slice none 0 0))
 have HCON := tuck (contract_any t hr hk _ (With X w (w.heap.size + 2)) (fun i hi => by
  rcases hi with hi | hi
  ·have := hX i hi; simp; omega
  ·simp; omega) _ (hs.widen hb2 (w.heap.size + 2)))
 have HB2 := tuck hb2
 obtain ⟨post, hpost⟩ : ∃ post : Ending → World → Prop, post = (fun e w' => Below w.heap.size w w' ∧ e = .returned (.tuple #[.agg #[I6 0, I6 0, .slice none 0 0], .bool false])) := ⟨_, rfl⟩
 rw [← hpost]
 have HPOST : Hid (∀ w', Below w.heap.size w w' → post (.returned (.tuple #[.agg #[I6 0, I6 0, .slice none 0 0], .bool false])) w') := tuck fun w' h => by rw [hpost]; exact ⟨h, rfl⟩
 clear hpost hs hb2 hX hr hk
 obtain ⟨z0, a0, a1, a2, -⟩ := HV0.out.facts
 go_enter Tryz.func44, Tryz.ntmps44
 go_wp2_with fail
 generalize (w.alloc (.cells #[I6 t.kind, I6 t.num, .slice a t.kids.length c] 34)).alloc (.cells #[I6 0, I6 0, .slice none 0 0] 34) = W0 at *
 refine HCON.out.mono ?_
 rintro e w3 hp3
 obtain ⟨U, ua, uc, rfl, hb3, hs3, -⟩ := hp3.open
 rw [tr_not hn]
 obtain ⟨zr, r0, r1, r2, rf⟩ := (HV1.out.below hb3).facts
 have hbk := below1 w3 (.cells #[I6 U.kind, I6 U.num, .slice ua U.kids.length uc] 34)
 obtain ⟨zr', r0', r1', r2', rf'⟩ := ((HV1.out.below hb3).below hbk).facts
 have HB3 := tuck (bAfter HB2.out hb3)
 clear hp3 hb3 hs3 hbk HCON hn z0 a0 a1 a2
 go_wp2_with fail
 refine bodyPost_ret (v := .tuple #[.agg #[I6 0, I6 0, .slice none 0 0], .bool false]) (by simp [results, Tryz.results44, go_sem, *]) rfl (HPOST.out _ ?_)
 exact bAfter (bSet3 HB3.out (Nat.le_succ _) _ _ _ _ _ _) (below1 _ _)
set_option maxRecDepth 100000 in
set_option maxHeartbeats 3200000 in
theorem contractAtI_any (t : Tm) (N : Int → Int) (len : Nat) (hlen : len ≤ 1048576) (w : World) (vt vp : Value) (ht : TmIn w 0 t vt) (hp : Ints w 0 N len vp) :
  Calls Tryz.prog 20 #[vt, vp] w (ReplPost w (ContrAt t N len) (contrAt t N len)) := by
 obtain ⟨s, rfl, hs⟩ := ht
 obtain ⟨a, c, rfl⟩ := hs.form
 obtain ⟨pa, pc, rfl⟩ := hp.form
 have HNO : Hid (¬ ContrAt t N len → ∀ w', Below w.heap.size w w' → ReplPost w (ContrAt t N len) (contrAt t N len) (.returned (.tuple #[.agg #[I6 0, I6 0, .slice none 0 0], .bool false])) w') := tuck fun h w' hb => ReplPost.no h hb
 have HYES : Hid (ContrAt t N len → ∀ w' s F, Below w.heap.size w w' → SlOwn w' (contrAt t N len).kids s F → F.Nodup → (∀ g ∈ F, w.heap.size ≤ g ∧ g < w'.heap.size) → ReplPost w (ContrAt t N len) (contrAt t N len) (.returned (.tuple #[.agg #[I6 (contrAt t N len).kind, I6 (contrAt t N len).num, s], .bool true])) w') := tuck fun h w' s F h1 h2 h3 h4 => ReplPost.yes h h1 h2 h3 h4
 generalize ReplPost w (ContrAt t N len) (contrAt t N len) = post at *
 have HS := tuck hs
 have HP := tuck hp
 have HBT := tuck ((VarAt.new w t.kind t.num (.slice a t.kids.length c)).below (below1 _ (.cells #[I6 0, I6 0, .slice none 0 0] 34)))
 have HBR := tuck (var_new1 w (.cells #[I6 t.kind, I6 t.num, .slice a t.kids.length c] 34) 0 0 (.slice none 0 0))
 have HB0 := tuck (below2 w (.cells #[I6 t.kind, I6 t.num, .slice a t.kids.length c] 34) (.cells #[I6 0, I6 0, .slice none 0 0] 34))
 clear hs hp
 obtain ⟨z, d0, d1, d2, df⟩ := HBT.out.facts
 go_enter Tryz.func20, Tryz.ntmps20
 go_wp2_with fail
 generalize (w.alloc (.cells #[I6 t.kind, I6 t.num, .slice a t.kids.length c] 34)).alloc (.cells #[I6 0, I6 0, .slice none 0 0] 34) = W0 at *
 refine (placeI_any t N len hlen W0 _ _ ⟨_, rfl, HS.out.below HB0.out⟩ (HP.out.below HB0.out)).mono ?_
 rintro e w1 ⟨hb1, hat⟩
 have HB1 := tuck (bAfter HB0.out hb1)
 have HR1 := tuck (HBR.out.below hb1)
 clear z d0 d1 d2 df HBT HBR HP HS
 rcases hat with ⟨hpl, g, M, rfl, hcur, -⟩ | ⟨hno, rfl⟩
 rotate_left
 ·obtain ⟨z1, r0, r1, r2, rf⟩ := HR1.out.facts
  clear hb1
  go_wp2_with fail
  refine bodyPost_ret (v := .tuple #[.agg #[I6 0, I6 0, .slice none 0 0], .bool false]) (by simp [results, Tryz.results20, go_sem, *]) rfl (HNO.out (fun h => hno h.1) _ ?_)
  exact bSet3 HB1.out (by omega) _ _ _ _ _ _
 have hk := hpl.ok
 have hsh := (hk.short hpl.1).2
 obtain ⟨hview, sx, qs, hsx, hpas, hst⟩ := hcur
 obtain ⟨xa, xc, rfl⟩ := hsx.form
 obtain ⟨zg, g0, g1, g2, -⟩ := cur_cells hst
 obtain ⟨sa, gb, cap, hcv, hgb, hcells⟩ := hst.view
 have hql := hpas.length
 have hka : ContrAt t N len ↔ ((wayT t N len).redex ≠ 0 ∧ (contrAt t N len).Valid) := ⟨fun h => h.2, fun h => ⟨hpl, h⟩⟩
 have HCT : Hid (∀ W, Below w1.heap.size w1 W → Calls Tryz.prog 44 #[.slice sa qs.length cap, .agg #[I6 (wayT t N len).kind, I6 (wayT t N len).num, .slice xa (wayT t N len).kids.length xc]] W (ContrPost (fun i => i = w1.heap.size ∧ i < W.heap.size) W ((wayT t N len).redex ≠ 0 ∧ (contrAt t N len).Valid) (contrAt t N len))) := tuck fun W hW => by
  have hvw : View W0 (fun i => i = w1.heap.size ∧ i < W.heap.size) W := View.of_below (bAfter hb1 hW) (fun i hi => by rw [hi.1]; exact hb1.size)
  have hx1 : SlX W (fun i => i = w1.heap.size ∧ i < W.heap.size) (wayT t N len).kids (.slice xa (wayT t N len).kids.length xc) := SlX.of_view hsx hvw
  by_cases hcv : (wayT t N len).redex ≠ 0 ∧ (wayT t N len).contr.Valid
  ·have := scontract_any W (fun i => i = w1.heap.size ∧ i < W.heap.size) (fun i hi => hi.2) (wayP t N len) hk.inn qs (Passed.toX (fun l v h => SlX.of_view h hvw) hk.inn hk.nodes hpas) (by omega) sa gb cap (fun hn => ⟨(hgb hn).1, Nat.lt_of_lt_of_le (hgb hn).2 hW.size⟩) (fun j x hj => (hW.cell (World.block_lt_of_cell? w1 _ (hcells j x hj))).trans (hcells j x hj)) (wayT t N len) hk.valid.root (fun i hi => hk.valid.get hi) hcv.1 _ hx1
   rw [show ((wayT t N len).redex ≠ 0 ∧ (contrAt t N len).Valid) = (around (wayP t N len) (wayT t N len).contr).Valid from propext ⟨fun h => h.2, fun h => ⟨hcv.1, h⟩⟩]
   exact this
  ·have hnn : ¬ ((wayT t N len).redex ≠ 0 ∧ (contrAt t N len).Valid) := fun h => hcv ⟨h.1, around_valid _ _ hk.inn h.2⟩
   refine (scontractN_any W (fun i => i = w1.heap.size ∧ i < W.heap.size) (fun i hi => hi.2) sa qs.length cap (wayT t N len) hk.valid.root (fun i hi => hk.valid.get hi) hcv _ hx1).mono ?_
   rintro e w' ⟨h1, rfl⟩
   exact ⟨h1, zeroT, .slice none 0 0, by rw [tr_not hnn]; rfl, SlX.nil _ _ _ _, fun h => absurd h hnn⟩
 have HCL : Hid ((contrAt t N len).Valid → ∀ (W : World) (s : Value), SlIn W 0 (contrAt t N len).kids s → Calls Tryz.prog 45 #[.agg #[I6 (contrAt t N len).kind, I6 (contrAt t N len).num, s]] W (MadePost W (contrAt t N len))) := tuck fun h W s hs => by
  have h2 := (valid_bounds h).1
  have := cloneI_any (contrAt t N len).kids (contrAt t N len).kind (contrAt t N len).num W _ (by omega) hs
  rwa [Tm.eta] at this
 obtain ⟨CA, hCA⟩ : ∃ CA : Prop, CA = ((wayT t N len).redex ≠ 0 ∧ (contrAt t N len).Valid) := ⟨_, rfl⟩
 rw [← hCA] at HCT hka
 have HKA : Hid ((ContrAt t N len ↔ CA) ∧ (CA → (contrAt t N len).Valid)) := tuck ⟨hka, fun h => by rw [hCA] at h; exact h.2⟩
 have zv := World.block_lt_of_cell? w1 _ hcv
 clear hCA hka hst hcells hgb hpas hql hview hk hsh hpl hb1 hsx
 generalize contrAt t N len = Y at *
 generalize wayT t N len = x at *
 have HOLD : Hid (∀ w', Below w1.heap.size w1 w' → (fun w' : World => Below w1.heap.size w1 w' ∧ g < w'.heap.size ∧ w'.cell? ⟨g, 3, none⟩ = some (.slice sa qs.length cap) ∧ (w'.cell? ⟨g, 0, none⟩ = some (I6 x.kind) ∧ w'.cell? ⟨g, 1, none⟩ = some (I6 x.num) ∧ w'.cell? ⟨g, 2, none⟩ = some (.slice xa x.kids.length xc))) w') := tuck fun w' h => ⟨h, Nat.lt_of_lt_of_le zg h.size, (h.cell (p := ⟨g, 3, none⟩) zg).trans hcv, ⟨(h.cell (p := ⟨g, 0, none⟩) zg).trans g0, (h.cell (p := ⟨g, 1, none⟩) zg).trans g1, (h.cell (p := ⟨g, 2, none⟩) zg).trans g2⟩⟩
 go_upto_region 4 with fail
 go_cut [7, 8] (fun p7 p8 wx => ∃ (gz : Nat) (U : Tm) (ua : Option Addr) (uc : Nat), p8 = .pointer (some ⟨gz, 0, none⟩) ∧ p7 = .bool (tr CA) ∧ Below w1.heap.size w1 wx ∧ VarAt gz U.kind U.num (.slice ua U.kids.length uc) wx ∧ w1.heap.size ≤ gz ∧ SlIn wx 0 U.kids (.slice ua U.kids.length uc) ∧ (CA → U = Y))
 case first =>
  refine AnyTwo.begin (fun w' : World => Below w1.heap.size w1 w' ∧ g < w'.heap.size ∧ w'.cell? ⟨g, 3, none⟩ = some (.slice sa qs.length cap) ∧ (w'.cell? ⟨g, 0, none⟩ = some (I6 x.kind) ∧ w'.cell? ⟨g, 1, none⟩ = some (I6 x.num) ∧ w'.cell? ⟨g, 2, none⟩ = some (.slice xa x.kids.length xc))) (fun _ => True) 14 (by kernel_rfl) ?_
  have hS1 : (fun w' : World => Below w1.heap.size w1 w' ∧ g < w'.heap.size ∧ w'.cell? ⟨g, 3, none⟩ = some (.slice sa qs.length cap) ∧ (w'.cell? ⟨g, 0, none⟩ = some (I6 x.kind) ∧ w'.cell? ⟨g, 1, none⟩ = some (I6 x.num) ∧ w'.cell? ⟨g, 2, none⟩ = some (.slice xa x.kids.length xc))) w1.drew := HOLD.out _ (Below.refl _ _).drew
  refine AnyTwo.take (i := 0) (oi := ⟨some 19, _, _, _, _, _⟩) (v := ?vt0) rfl (by kernel_rfl) (by kernel_rfl) (by decide +kernel) (by kernel_rfl) (by rfl) (by kernel_rfl) (fun _ _ _ h => h) (Or.inl ⟨by rfl, ?yt0⟩) hS1 ?rt0
  case yt0 => (intro w hSw; (try dsimp only at hSw); go_simp; try (with_reducible rfl))
  try simp only [pts]
  refine AnyTwo.take (i := 1) (oi := ⟨some 20, _, _, _, _, _⟩) (v := ?vt1) rfl (by kernel_rfl) (by kernel_rfl) (by decide +kernel) (by kernel_rfl) (by rfl) (by kernel_rfl) (fun _ _ _ h => h) (Or.inl ⟨by rfl, ?yt1⟩) hS1 ?rt1
  case yt1 => (intro w hSw; (try dsimp only at hSw); go_simp; try (with_reducible rfl))
  try simp only [pts]
  refine AnyTwo.take (i := 2) (oi := ⟨some 21, _, _, _, _, _⟩) (v := ?vt2) rfl (by kernel_rfl) (by kernel_rfl) (by decide +kernel) (by kernel_rfl) (by rfl) (by kernel_rfl) (fun _ _ _ h => h) (Or.inl ⟨by rfl, ?yt2⟩) hS1 ?rt2
  case yt2 => (intro w hSw; (try dsimp only at hSw); go_simp; try (with_reducible rfl))
  try simp only [pts]
  refine AnyTwo.take (i := 3) (oi := ⟨some 22, _, _, _, _, _⟩) (v := ?vt3) rfl (by kernel_rfl) (by kernel_rfl) (by decide +kernel) (by kernel_rfl) (by rfl) (by kernel_rfl) (fun _ _ _ h => h) (Or.inl ⟨by rfl, ?yt3⟩) hS1 ?rt3
  case yt3 => (intro w hSw; (try dsimp only at hSw); go_simp; try (with_reducible rfl))
  try simp only [pts]
  refine AnyTwo.take (i := 4) (oi := ⟨some 23, _, _, _, _, _⟩) (v := ?vt4) rfl (by kernel_rfl) (by kernel_rfl) (by decide +kernel) (by kernel_rfl) (by rfl) (by kernel_rfl) (fun _ _ _ h => h) (Or.inl ⟨by rfl, ?yt4⟩) hS1 ?rt4
  case yt4 => (intro w hSw; (try dsimp only at hSw); go_simp; try (with_reducible rfl))
  try simp only [pts]
  refine AnyTwo.take (i := 5) (oi := ⟨some 24, _, _, _, _, _⟩) (v := ?vt5) rfl (by kernel_rfl) (by kernel_rfl) (by decide +kernel) (by kernel_rfl) (by rfl) (by kernel_rfl) (fun _ _ _ h => h) (Or.inl ⟨by rfl, ?yt5⟩) hS1 ?rt5
  case yt5 => (intro w hSw; (try dsimp only at hSw); go_simp; try (with_reducible rfl))
  try simp only [pts]
  refine AnyTwo.take (i := 6) (oi := ⟨some 25, _, _, _, _, _⟩) (v := ?vt6) rfl (by kernel_rfl) (by kernel_rfl) (by decide +kernel) (by kernel_rfl) (by rfl) (by kernel_rfl) (fun _ _ _ h => h) (Or.inl ⟨by rfl, ?yt6⟩) hS1 ?rt6
  case yt6 => (intro w hSw; (try dsimp only at hSw); go_simp; try (with_reducible rfl))
  try simp only [pts]
  refine AnyTwo.take (i := 7) (oi := ⟨some 26, _, _, _, _, _⟩) (v := ?vt7) rfl (by kernel_rfl) (by kernel_rfl) (by decide +kernel) (by kernel_rfl) (by rfl) (by kernel_rfl) (fun _ _ _ h => h) (Or.inl ⟨by rfl, ?yt7⟩) hS1 ?rt7
  case yt7 => (intro w hSw; (try dsimp only at hSw); go_simp; try (with_reducible rfl))
  try simp only [pts]
  refine AnyTwo.fork (i := 8) (o := ⟨some 27, _, _, _, _, _⟩) (j := 12) (o' := ⟨some 8, _, _, _, _, _⟩) (by kernel_rfl) rfl rfl (fun K hK => ?_) (fun K hK => ?_)
  ·go_simp
   refine (HCT.out _ hS1.1).mono ?_
   rintro e w5 hp5
   obtain ⟨U, ua, uc, rfl, hb5, hs5, hU⟩ := hp5.open
   have HS5 := tuck hs5.sl
   have HU := tuck hU
   have HB5W := tuck (bAfter hS1.1 hb5)
   have hS1' : (fun w' : World => Below w1.heap.size w1 w' ∧ g < w'.heap.size ∧ w'.cell? ⟨g, 3, none⟩ = some (.slice sa qs.length cap) ∧ (w'.cell? ⟨g, 0, none⟩ = some (I6 x.kind) ∧ w'.cell? ⟨g, 1, none⟩ = some (I6 x.num) ∧ w'.cell? ⟨g, 2, none⟩ = some (.slice xa x.kids.length xc))) _ := HOLD.out _ (bAfter hS1.1 hb5)
   refine hK.out _ _ (ph_one (by kernel_rfl) hS1') ?_
   clear hK K hS1
   have hS1 := hS1'
   clear hS1'
   try simp only [pts]
   refine AnyTwo.take (i := 9) (oi := ⟨some 18, _, _, _, _, _⟩) (v := ?vc9) rfl (by kernel_rfl) (by kernel_rfl) (by decide +kernel) (by kernel_rfl) (by rfl) (by kernel_rfl) (fun _ _ _ h => h) (Or.inl ⟨by rfl, ?yc9⟩) hS1 ?rc9
   case yc9 => (intro w hSw; (try dsimp only at hSw); go_simp; try (with_reducible rfl))
   try simp only [pts]
   refine AnyTwo.take (i := 10) (oi := ⟨some 28, _, _, _, _, _⟩) (v := ?vc10) rfl (by kernel_rfl) (by kernel_rfl) (by decide +kernel) (by kernel_rfl) (by rfl) (by kernel_rfl) (fun _ _ _ h => h) (Or.inl ⟨by rfl, ?yc10⟩) hS1 ?rc10
   case yc10 => (intro w hSw; (try dsimp only at hSw); go_simp; try (with_reducible rfl))
   try simp only [pts]
   refine AnyTwo.take (i := 11) (oi := ⟨some 29, _, _, _, _, _⟩) (v := ?vc11) rfl (by kernel_rfl) (by kernel_rfl) (by decide +kernel) (by kernel_rfl) (by rfl) (by kernel_rfl) (fun _ _ _ h => h) (Or.inl ⟨by rfl, ?yc11⟩) hS1 ?rc11
   case yc11 => (intro w hSw; (try dsimp only at hSw); go_simp; try (with_reducible rfl))
   try simp only [pts]
   refine AnyTwo.step (i := 12) (o := ⟨some 8, _, _, _, _, _⟩) (by kernel_rfl) rfl (fun K hK => ?_)
   go_simp
   have hz5 : w1.heap.size ≤ w5.heap.size := hS1.1.size
   have HZ5 := tuck hz5
   clear hz5
   have hS1' : (fun w' : World => Below w1.heap.size w1 w' ∧ g < w'.heap.size ∧ w'.cell? ⟨g, 3, none⟩ = some (.slice sa qs.length cap) ∧ (w'.cell? ⟨g, 0, none⟩ = some (I6 x.kind) ∧ w'.cell? ⟨g, 1, none⟩ = some (I6 x.num) ∧ w'.cell? ⟨g, 2, none⟩ = some (.slice xa x.kids.length xc))) _ := HOLD.out _ (bAfter hS1.1 (below1 w5 (.cells #[I6 0, I6 0, .slice none 0 0] 34)))
   refine hK.out _ _ (ph_one (by kernel_rfl) hS1') ?_
   clear hK K hS1
   have hS1 := hS1'
   clear hS1'
   try simp only [pts]
   refine AnyTwo.step (i := 13) (o := ⟨none, _, _, _, _, _⟩) (by kernel_rfl) rfl (fun K hK => ?_)
   go_simp
   have HBX := tuck (bAfter (show Below w1.heap.size w1 w5 from HB5W.out) (below1 w5 (.cells #[I6 U.kind, I6 U.num, .slice ua U.kids.length uc] 34)))
   have hS1' : (fun w' : World => Below w1.heap.size w1 w' ∧ g < w'.heap.size ∧ w'.cell? ⟨g, 3, none⟩ = some (.slice sa qs.length cap) ∧ (w'.cell? ⟨g, 0, none⟩ = some (I6 x.kind) ∧ w'.cell? ⟨g, 1, none⟩ = some (I6 x.num) ∧ w'.cell? ⟨g, 2, none⟩ = some (.slice xa x.kids.length xc))) _ := HOLD.out _ HBX.out
   refine hK.out _ _ (ph_one (by kernel_rfl) hS1') ?_
   clear hK K hS1
   have hS1 := hS1'
   clear hS1'
   try simp only [pts]
   refine AnyTwo.step (i := 14) (o := ⟨some 7, _, _, _, _, _⟩) (by kernel_rfl) rfl (fun K hK => ?_)
   go_simp
   refine hK.out _ _ (ph_end (by kernel_rfl) trivial) ?_
   clear hK K
   try simp only [pts]
   refine AnyTwo.done (by kernel_rfl) ?_ _
   go_wp2_with fail
   go_meet
   exact ⟨w5.heap.size, U, ua, uc, rfl, rfl, HBX.out, VarAt.new w5 U.kind U.num (.slice ua U.kids.length uc), HZ5.out, HS5.out.below (below1 w5 (.cells #[I6 U.kind, I6 U.num, .slice ua U.kids.length uc] 34)), HU.out⟩
  ·go_simp
   have HZA := tuck (show VarAt w1.heap.size 0 0 (.slice none 0 0) (w1.alloc (.cells #[I6 0, I6 0, .slice none 0 0] 34)).drew from VarAt.new w1 0 0 (.slice none 0 0))
   have hS1' : (fun w' : World => Below w1.heap.size w1 w' ∧ g < w'.heap.size ∧ w'.cell? ⟨g, 3, none⟩ = some (.slice sa qs.length cap) ∧ (w'.cell? ⟨g, 0, none⟩ = some (I6 x.kind) ∧ w'.cell? ⟨g, 1, none⟩ = some (I6 x.num) ∧ w'.cell? ⟨g, 2, none⟩ = some (.slice xa x.kids.length xc))) _ := HOLD.out _ (below1 w1 (.cells #[I6 0, I6 0, .slice none 0 0] 34)).drew
   refine hK.out _ _ (ph_one (by kernel_rfl) hS1') ?_
   clear hK K hS1
   have hS1 := hS1'
   clear hS1'
   try simp only [pts]
   refine AnyTwo.step (i := 8) (o := ⟨some 27, _, _, _, _, _⟩) (by kernel_rfl) rfl (fun K hK => ?_)
   go_simp
   refine (HCT.out _ hS1.1).mono ?_
   rintro e w5 hp5
   obtain ⟨U, ua, uc, rfl, hb5, hs5, hU⟩ := hp5.open
   have HS5X := tuck hs5
   have HU := tuck hU
   have HZB := tuck (HZA.out.below hb5)
   have HB5W := tuck (bAfter hS1.1 hb5)
   have HGL : Hid (w1.heap.size < w5.heap.size) := tuck HZB.out.facts.1
   obtain ⟨zz, y0, y1, y2, yf⟩ := HZB.out.facts
   have hS1' : (fun w' : World => Below w1.heap.size w1 w' ∧ g < w'.heap.size ∧ w'.cell? ⟨g, 3, none⟩ = some (.slice sa qs.length cap) ∧ (w'.cell? ⟨g, 0, none⟩ = some (I6 x.kind) ∧ w'.cell? ⟨g, 1, none⟩ = some (I6 x.num) ∧ w'.cell? ⟨g, 2, none⟩ = some (.slice xa x.kids.length xc))) _ := HOLD.out _ (bAfter hS1.1 hb5)
   refine hK.out _ _ (ph_one (by kernel_rfl) hS1') ?_
   clear hK K hS1
   have hS1 := hS1'
   clear hS1'
   try simp only [pts]
   refine AnyTwo.take (i := 9) (oi := ⟨some 18, _, _, _, _, _⟩) (v := ?va9) rfl (by kernel_rfl) (by kernel_rfl) (by decide +kernel) (by kernel_rfl) (by rfl) (by kernel_rfl) (fun _ _ _ h => h) (Or.inl ⟨by rfl, ?ya9⟩) hS1 ?ra9
   case ya9 => (intro w hSw; (try dsimp only at hSw); go_simp; try (with_reducible rfl))
   try simp only [pts]
   refine AnyTwo.take (i := 10) (oi := ⟨some 28, _, _, _, _, _⟩) (v := ?va10) rfl (by kernel_rfl) (by kernel_rfl) (by decide +kernel) (by kernel_rfl) (by rfl) (by kernel_rfl) (fun _ _ _ h => h) (Or.inl ⟨by rfl, ?ya10⟩) hS1 ?ra10
   case ya10 => (intro w hSw; (try dsimp only at hSw); go_simp; try (with_reducible rfl))
   try simp only [pts]
   refine AnyTwo.take (i := 11) (oi := ⟨some 29, _, _, _, _, _⟩) (v := ?va11) rfl (by kernel_rfl) (by kernel_rfl) (by decide +kernel) (by kernel_rfl) (by rfl) (by kernel_rfl) (fun _ _ _ h => h) (Or.inl ⟨by rfl, ?ya11⟩) hS1 ?ra11
   case ya11 => (intro w hSw; (try dsimp only at hSw); go_simp; try (with_reducible rfl))
   try simp only [pts]
   refine AnyTwo.step (i := 13) (o := ⟨none, _, _, _, _, _⟩) (by kernel_rfl) rfl (fun K hK => ?_)
   go_simp
   have hS1' : (fun w' : World => Below w1.heap.size w1 w' ∧ g < w'.heap.size ∧ w'.cell? ⟨g, 3, none⟩ = some (.slice sa qs.length cap) ∧ (w'.cell? ⟨g, 0, none⟩ = some (I6 x.kind) ∧ w'.cell? ⟨g, 1, none⟩ = some (I6 x.num) ∧ w'.cell? ⟨g, 2, none⟩ = some (.slice xa x.kids.length xc))) _ := HOLD.out _ (bSet3 HB5W.out (Nat.le_refl _) 0 1 2 (I6 U.kind) (I6 U.num) (.slice ua U.kids.length uc))
   refine hK.out _ _ (ph_one (by kernel_rfl) hS1') ?_
   clear hK K hS1
   have hS1 := hS1'
   clear hS1'
   try simp only [pts]
   refine AnyTwo.step (i := 14) (o := ⟨some 7, _, _, _, _, _⟩) (by kernel_rfl) rfl (fun K hK => ?_)
   go_simp
   refine hK.out _ _ (ph_end (by kernel_rfl) trivial) ?_
   clear hK K
   try simp only [pts]
   refine AnyTwo.done (by kernel_rfl) ?_ _
   go_wp2_with fail
   go_meet
   exact ⟨w1.heap.size, U, ua, uc, rfl, rfl, bSet3 HB5W.out (Nat.le_refl _) _ _ _ _ _ _, HZB.out.set3, Nat.le_refl _, (HS5X.out.set3 (g := w1.heap.size) ⟨rfl, by simp⟩ _ _ _ _ _ _).sl, HU.out⟩
 case rest =>
  obtain ⟨gz, U, ua, uc, rfl, rfl, hbw, hvz, hgz, hsu, hU⟩ := hcut
  rename World => W8
  have HB8 := tuck (bAfter HB1.out hbw)
  have HR8 := tuck (HR1.out.below hbw)
  have HVZ := tuck hvz
  have HSU := tuck hsu
  by_cases hca : CA
  ·have hY := HKA.out.1.2 hca
   have hYV := HKA.out.2 hca
   obtain rfl := hU hca
   rw [tr_of hca]
   have HCC := tuck (HCL.out hYV _ _ HSU.out)
   have HYY := tuck (HYES.out hY)
   obtain ⟨zz, y0, y1, y2, yf⟩ := HVZ.out.facts
   clear hU hbw hvz hsu hY hYV HCL HYES HNO HKA
   go_wp2_with fail
   refine HCC.out.mono ?_
   rintro e w9 ⟨hb9, v9, rfl, s9, F, rfl, hs9, hn9, hF9⟩
   obtain ⟨qa, qc, rfl⟩ := hs9.form
   obtain ⟨z1, r0, r1, r2, rf⟩ := (HR8.out.below hb9).facts
   have HZ := tuck (show w.heap.size + 1 < _ from HR8.out.facts.1)
   go_wp2_with fail
   refine bodyPost_ret (v := .tuple #[.agg #[I6 U.kind, I6 U.num, .slice qa U.kids.length qc], .bool true]) (by simp [results, Tryz.results20, go_sem, *]) rfl (HYY.out _ _ F ?_ ?_ hn9 (fun g hg => ?_))
   ·exact bSet3 (bAfter HB8.out hb9) (by omega) _ _ _ _ _ _
   ·exact hs9.set3 (fun h => by have := (hF9 _ h).1; have := HZ.out; omega) _ _ _ _ _ _
   ·rw [size_set3]
    have h1 := hF9 g hg
    have h2 := HB8.out.size
    omega
  ·rw [tr_not hca]
   obtain ⟨z1, r0, r1, r2, rf⟩ := HR8.out.facts
   have HN := tuck (HNO.out (fun h => hca (HKA.out.1.1 h)))
   clear hU hbw hvz hsu HCL HYES HNO HKA
   go_wp2_with fail
   refine bodyPost_ret (v := .tuple #[.agg #[I6 0, I6 0, .slice none 0 0], .bool false]) (by simp [results, Tryz.results20, go_sem, *]) rfl (HN.out _ ?_)
   exact bSet3 HB8.out (by omega) _ _ _ _ _ _
end Go.Proofs.YtpddjebdncaceaaGreat
