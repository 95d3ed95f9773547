/-
  Pv, DrawsT.
-/
import Derived.Test.YtlbikgnanabjgaaGreatQ44
import Derived.Test.YtlbikgnanabjgaaGreatQ47
import Derived.Test.YtlbikgnanabjgaaGreatQ48
namespace Go.Proofs.YtlbikgnanabjgaaGreat
open Go.RowKit
def ParseD (w : World) (e : Ending) (w' : World) : Prop := Below w.heap.size w w' ∧ ∃ (T : Tm) (ok : Bool) (v : Value), e = .returned (.tuple #[v, .bool ok]) ∧ TmIn w' w.heap.size T v ∧ (ok = true → T.Valid)
set_option maxRecDepth 100000 in
set_option maxHeartbeats 4000000 in
theorem parseD_any (s : ByteArray) (hs : s.size ≤ 100000) (w : World) : Calls Tryz.prog 46 #[.string s] w (ParseD w) := by
 have HN : Hid (∀ w', Below w.heap.size w w' → ParseD w (.returned (.tuple #[.agg #[.int .i64 0, .int .i64 0, .slice none 0 0], .bool false])) w') := tuck fun w' hb => ⟨hb, zeroT, false, _, rfl, ⟨_, rfl, SlIn.nil _ _ _ _⟩, fun h => by cases h⟩
 have HY : Hid (∀ (T : Tm) (w' : World) (a : Option Addr) (c : Nat), Below w.heap.size w w' → SlIn w' w.heap.size T.kids (.slice a T.kids.length c) → T.Valid → ParseD w (.returned (.tuple #[.agg #[.int .i64 T.kind, .int .i64 T.num, .slice a T.kids.length c], .bool true])) w') := tuck fun T w' a c hb h2 hv => ⟨hb, T, true, _, rfl, ⟨_, rfl, h2⟩, fun _ => hv⟩
 generalize ParseD w = post at *
 have HPA : Hid (∀ W, Calls Tryz.prog 61 #[.string s, .int .i64 0, .int .i64 30] W (PW s W)) := tuck fun W => wparse_ok s (by omega) 30 (by decide) 0 W (by decide) (by omega)
 have HF : Hid (∀ T (w : World) (v : Value), TmIn w 0 T v → Calls Tryz.prog 62 #[v] w (StrPost w (fmtOf T))) := tuck format_any
 have HB1 := tuck (below1 w (.cells #[.int .i64 0, .int .i64 0, .slice none 0 0] 25))
 have HV1 := tuck (VarAt.new w 0 0 (.slice none 0 0))
 go_enter Tryz.func46, Tryz.ntmps46
 go_wp2_with fail
 generalize w.alloc (.cells #[.int .i64 0, .int .i64 0, .slice none 0 0] 25) = W1 at *
 refine (HPA.out _).mono ?_
 rintro e w3 ⟨hb3, T, ta, tc, nx, rfl, hs3, hm⟩
 have hbx := below1 w3 (.cells #[.int .i64 T.kind, .int .i64 T.num, .slice ta T.kids.length tc] 25)
 have HV3 := tuck ((HV1.out.below hb3).below hbx)
 have HVT := tuck (VarAt.new w3 T.kind T.num (.slice ta T.kids.length tc))
 have HB3 := tuck (bAfter HB1.out (bAfter hb3 hbx))
 have HZ1 : Hid (w.heap.size + 1 ≤ W1.heap.size) := tuck HV1.out.facts.1
 have HS3 := tuck (hs3.below hbx)
 have HM := tuck hm
 obtain ⟨z1, r0, r1, r2, rf⟩ := HV3.out.facts
 obtain ⟨zt, t0, t1, t2, -⟩ := HVT.out.facts
 clear hb3 hs3 hbx hm HPA
 by_cases h0 : s.size = 0
 ·obtain rfl : s = ByteArray.mk #[] := ByteArray.size_eq_zero_iff.1 h0
  clear HY HM
  go_wp2_with fail
  refine bodyPost_ret (v := .tuple #[.agg #[.int .i64 0, .int .i64 0, .slice none 0 0], .bool false]) (by simp [results, Tryz.results46, go_sem, *]) rfl (HN.out _ ?_)
  first | exact bSet3 HB3.out (Nat.le_refl _) _ _ _ _ _ _ | exact HB3.out
 ·have he1 := ba_ne h0
  have he2 := ba_ne' h0
  by_cases hn : nx = (s.size : Int)
  ·have hk : (nx != (s.size : Int)) = false := by rw [bne_eq_false_iff_eq]; exact hn
   have HFT : Hid (∀ W : World, Below (w3.alloc (.cells #[.int .i64 T.kind, .int .i64 T.num, .slice ta T.kids.length tc] 25)).heap.size (w3.alloc (.cells #[.int .i64 T.kind, .int .i64 T.num, .slice ta T.kids.length tc] 25)) W → Calls Tryz.prog 62 #[.agg #[.int .i64 T.kind, .int .i64 T.num, .slice ta T.kids.length tc]] W (StrPost W (fmtOf T))) := tuck fun W h => HF.out T W _ ⟨_, rfl, (HS3.out.mono (Nat.zero_le _)).below h⟩
   by_cases hf : fmtOf T = s
   ·have hT : T.Valid := Classical.byContradiction fun h => by
     rw [fmtOf_no h] at hf
     exact h0 (by rw [← hf]; rfl)
    rw [hf] at HFT
    clear HN HM HF hf
    go_wp2_with fail
    refine (HFT.out _ (Below.refl _ _)).mono ?_
    rintro e w5 ⟨rfl, hb5⟩
    have HB5 := tuck (bAfter HB3.out hb5)
    have HS5 := tuck (HS3.out.below hb5)
    clear z1 r0 r1 r2 rf zt t0 t1 t2
    obtain ⟨z1, r0, r1, r2, rf⟩ := (HV3.out.below hb5).facts
    obtain ⟨zt, t0, t1, t2, -⟩ := (HVT.out.below hb5).facts
    clear hb5
    go_wp2_with fail
    refine bodyPost_ret (v := .tuple #[.agg #[.int .i64 T.kind, .int .i64 T.num, .slice ta T.kids.length tc], .bool true]) (by simp [results, Tryz.results46, go_sem, *]) rfl (HY.out T _ _ _ ?_ ?_ hT)
    ·exact bSet3 HB5.out (Nat.le_refl _) _ _ _ _ _ _
    ·exact (SlIn.set3 (HS5.out.mono HZ1.out) (Nat.lt_succ_self _)).mono (Nat.le_succ _)
   ·generalize fmtOf T = Y at *
    have hf1 : (Y.toList == s.toList) = false := by rw [beq_eq_false_iff_ne]; exact fun h => hf (ba_inj h)
    have hf2 : ¬ (Y.toList = s.toList) := fun h => hf (ba_inj h)
    clear HY HM HF
    go_wp2_with fail
    refine (HFT.out _ (Below.refl _ _)).mono ?_
    rintro e w5 ⟨rfl, hb5⟩
    have HB5 := tuck (bAfter HB3.out hb5)
    clear z1 r0 r1 r2 rf zt t0 t1 t2
    obtain ⟨z1, r0, r1, r2, rf⟩ := (HV3.out.below hb5).facts
    clear hb5
    go_wp2_with fail
    refine bodyPost_ret (v := .tuple #[.agg #[.int .i64 0, .int .i64 0, .slice none 0 0], .bool false]) (by simp [results, Tryz.results46, go_sem, *]) rfl (HN.out _ ?_)
    first | exact bSet3 HB5.out (Nat.le_refl _) _ _ _ _ _ _ | exact HB5.out
  ·have hk : (nx != (s.size : Int)) = true := by rw [bne_iff_ne]; exact hn
   clear HY HM HF
   go_wp2_with fail
   refine bodyPost_ret (v := .tuple #[.agg #[.int .i64 0, .int .i64 0, .slice none 0 0], .bool false]) (by simp [results, Tryz.results46, go_sem, *]) rfl (HN.out _ ?_)
   first | exact bSet3 HB3.out (Nat.le_refl _) _ _ _ _ _ _ | exact HB3.out
end Go.Proofs.YtlbikgnanabjgaaGreat
namespace Go.Proofs.YtlbikgnanabjgaaGreat
open Go.RowKit
def StrsB (b o n : Nat) (w : World) : Prop := ∀ i, i < n → ∃ s : ByteArray, w.cell? ⟨b, o + i, none⟩ = some (.string s) ∧ s.size ≤ 1000
def StrDPost (g : Nat) (a : Option Addr) (len cap p : Nat) (w : World) (e : Ending) (w' : World) : Prop := ∃ s : ByteArray, s.size ≤ 1000 ∧ e = .returned (.string s) ∧ Rd g a len cap (p + 1) w' ∧ Only g w w'
theorem of_any {U : Nat → Int} {g : Nat} {a : Option Addr} {b o len cap p : Nat} {b2 o2 n c2 : Nat} (w : World) (hlen : len ≤ 2000) (hp : p ≤ 1000000) (hn : 1 ≤ n) (hn2 : n ≤ 1000000) (hrd : Rd g a len cap p w) (hby : Bytes U a b o len w) (hbg : 0 < len → b ≠ g) (hi : StrsB b2 o2 n w) (hb2 : b2 ≠ g) :
  Calls Tryz.prog 44 #[.pointer (some ⟨g, 0, none⟩), .slice (some ⟨b2, o2, none⟩) n c2] w (StrDPost g a len cap p w) := by
 have HP : Hid (∀ s w', s.size ≤ 1000 → Rd g a len cap (p + 1) w' → Only g w w' → StrDPost g a len cap p w (.returned (.string s)) w') := fun s w' h1 h2 h3 => ⟨s, h1, rfl, h2, h3⟩
 have HK := tuck (pick_any (n := (n : Int)) w hlen hp (by omega) (by omega) hrd hby hbg)
 have HI := tuck hi
 generalize StrDPost g a len cap p w = post at *
 clear hrd hby hi
 go_enter Tryz.func44, Tryz.ntmps44
 go_wp2_with fail
 refine HK.out.mono ?_
 rintro e w1 ⟨v, rfl, h0, h1, hrd, ho⟩
 obtain ⟨i, rfl⟩ : ∃ i : Nat, v = i := ⟨v.toNat, by omega⟩
 have hin : i < n := by omega
 obtain ⟨s, hc, hs⟩ := HI.out i hin
 have hc1 : w1.cell? ⟨b2, o2 + i, none⟩ = some (.string s) := (ho.cell (p := ⟨b2, o2 + i, none⟩) (World.block_lt_of_cell? w _ hc) hb2).trans hc
 have HR := tuck hrd
 have HO := tuck ho
 have HS := tuck hs
 clear hc hrd ho HI hs
 go_wp2
 exact HP.out _ _ HS.out HR.out HO.out
def PlusPost (w : World) (e : Ending) (w' : World) : Prop := ∃ s : ByteArray, s.size ≤ 100 ∧ e = .returned (.string s) ∧ w = w'
theorem plus_any (w : World) : Calls Tryz.prog 45 #[] w (PlusPost w) := by
 have HP : Hid (∀ s : ByteArray, s.size ≤ 100 → PlusPost w (.returned (.string s)) w) := fun s h => ⟨s, h, rfl, rfl⟩
 generalize PlusPost w = post at *
 go_enter Tryz.func45, Tryz.ntmps45
 go_wp2
 exact HP.out _ (by decide)
def L3Post (g : Nat) (a : Option Addr) (len cap p : Nat) (w : World) (e : Ending) (w' : World) : Prop :=
 ∃ (t : Tm) (s : Value) (p' : Nat), e = .returned (.agg #[.int .i64 t.kind, .int .i64 t.num, s]) ∧ SlIn w' w.heap.size t.kids s ∧ t.Valid ∧ p' ≤ p + 1900 ∧ Rd g a len cap p' w' ∧ Only g w w'
theorem SlIn.onlyR2 {g B : Nat} {w w' : World} {l : List Tm} {v : Value} (h : SlIn w B l v) (ho : Only g w w') (hg : g < B) : SlIn w' B l v :=
 h.keep fun p hp hz => ho.cell hz (by omega)
set_option maxRecDepth 100000 in
set_option maxHeartbeats 4000000 in
theorem l3draw_any {U : Nat → Int} {g : Nat} {a : Option Addr} {b o len cap p : Nat} (w : World) (hlen : len ≤ 2000) (hbg : 0 < len → b ≠ g) (hp : p ≤ 80000) (hrd : Rd g a len cap p w) (hby : Bytes U a b o len w) : Calls Tryz.prog 29 #[.pointer (some ⟨g, 0, none⟩)] w (L3Post g a len cap p w) := by
 have HP : Hid (∀ (t : Tm) (s : Value) (p' : Nat) (w' : World), SlIn w' w.heap.size t.kids s → t.Valid → p' ≤ p + 1900 → Rd g a len cap p' w' → Only g w w' → L3Post g a len cap p w (.returned (.agg #[.int .i64 t.kind, .int .i64 t.num, s])) w') := fun t s p' w' h1 h2 h3 h4 h5 => ⟨t, s, p', rfl, h1, h2, h3, h4, h5⟩
 generalize L3Post g a len cap p w = post at *
 have hg := hrd.facts.1
 have HRD := tuck (hrd.below (below1 w (.cells #[.int .i64 0, .int .i64 0, .slice none 0 0] 25)))
 have HBY := tuck (hby.below (below1 w (.cells #[.int .i64 0, .int .i64 0, .slice none 0 0] 25)))
 have HV := tuck (VarAt.new w 0 0 (.slice none 0 0))
 have HO : Hid (Only g w (w.alloc (.cells #[.int .i64 0, .int .i64 0, .slice none 0 0] 25))) := tuck ((Only.refl g w).alloc _)
 clear hrd hby
 go_enter Tryz.func29, Tryz.ntmps29
 go_wp2_with fail
 generalize w.alloc (.cells #[.int .i64 0, .int .i64 0, .slice none 0 0] 25) = W1 at *
 refine (plus_any _).mono ?_
 rintro e w2 ⟨x1, hx1, rfl, rfl⟩
 have k1 : ¬ (9223372036854775807 < 1 + x1.size) := by omega
 have k2 : ¬ (9223372036854775807 < 1 + x1.size + 5) := by omega
 go_wp2_with fail
 refine (plus_any _).mono ?_
 rintro e w2 ⟨x2, hx2, rfl, rfl⟩
 have k3 : ¬ (9223372036854775807 < 2 + x2.size) := by omega
 have k4 : ¬ (9223372036854775807 < 2 + x2.size + 9) := by omega
 have hgW : W1.heap.size ≠ g := by have := HRD.out.facts.1; omega
 go_wp2_with fail
 refine (of_any (b2 := W1.heap.size) (o2 := 0) (n := 13) _ hlen (by omega) (by omega) (by omega) (HRD.out.below (below1 _ _)) (HBY.out.below (below1 _ _)) hbg ?strs hgW).mono ?_
 case strs =>
  intro i hi
  have hcs : i = 0 ∨ i = 1 ∨ i = 2 ∨ i = 3 ∨ i = 4 ∨ i = 5 ∨ i = 6 ∨ i = 7 ∨ i = 8 ∨ i = 9 ∨ i = 10 ∨ i = 11 ∨ i = 12 := by omega
  rcases hcs with rfl | rfl | rfl | rfl | rfl | rfl | rfl | rfl | rfl | rfl | rfl | rfl | rfl <;>
   (refine ⟨_, by rw [World.cell?_alloc_new]; rfl, ?_⟩; first | decide | (rw [ByteArray.size_append, ByteArray.size_append]; have l1 : (ByteArray.mk #[40]).size = 1 := rfl; have l2 : (ByteArray.mk #[32, 43, 43, 48, 41]).size = 5 := rfl; have l3 : (ByteArray.mk #[40, 40]).size = 2 := rfl; have l4 : (ByteArray.mk #[32, 43, 43, 48, 41, 32, 43, 48, 41]).size = 9 := rfl; omega))
 rintro e w3 ⟨s, hs, rfl, hrd, ho⟩
 have hlt1 : W1.heap.size ≤ w3.heap.size := by have := ho.size; simp at this; omega
 replace HO : Hid (Only g w w3) := tuck ((HO.out.alloc _).trans ho)
 replace HBY := tuck ((HBY.out.below (below1 _ _)).only ho hbg)
 replace HV := tuck ((HV.out.below (below1 _ _)).only ho (by omega))
 replace HRD := tuck hrd
 have HZ1 := tuck hlt1
 have hgw : g < w.heap.size + 1 := by omega
 have HZ2 : Hid (w.heap.size + 1 ≤ w3.heap.size) := tuck (by have := HV.out.facts.1; omega)
 clear hrd ho hgW hlt1 k1 k2 k3 k4 hx1 hx2
 have HPT := tuck (fun W => parseD_any s (by omega) W)
 go_wp2_with fail
 refine (HPT.out _).mono ?_
 rintro e w4 ⟨hb4, T, ok, v, rfl, ⟨u, rfl, hin⟩, hok⟩
 obtain ⟨ta, tc, rfl⟩ := hin.form
 have hbx := below1 w4 (.cells #[.int .i64 T.kind, .int .i64 T.num, .slice ta T.kids.length tc] 25)
 replace HO := tuck ((HO.out.of_below hb4).of_below hbx)
 replace HBY := tuck ((HBY.out.below hb4).below hbx)
 replace HV := tuck ((HV.out.below hb4).below hbx)
 replace HRD := tuck ((HRD.out.below hb4).below hbx)
 have HT := tuck (VarAt.new w4 T.kind T.num (.slice ta T.kids.length tc))
 have HI := tuck (hin.below hbx)
 have hz4 : w.heap.size + 1 ≤ w4.heap.size := Nat.le_trans HZ2.out hb4.size
 have HOK := tuck hok
 clear hb4 hin hbx hok HPT
 cases ok with
 | false =>
  clear HT HI HOK
  go_wp2_with fail
  refine (lany_any _ hlen hbg (by omega) HRD.out HBY.out).mono ?_
  rintro e w8 ⟨t, s, G, p8, rfl, hso, -, hF, hv, hp8, hrd, ho⟩
  obtain ⟨sa, sc, rfl⟩ := hso.form
  have hzv := HV.out.facts.1
  have HS : Hid (SlIn w8 (w.heap.size + 1) t.kids (.slice sa t.kids.length sc)) := tuck (hso.sl (fun x hx => Nat.le_trans hzv (hF x hx).1))
  have HO8 := tuck (HO.out.trans ho)
  have HR8 := tuck hrd
  obtain ⟨z1, r0, r1, r2, rf⟩ := (HV.out.only ho (by omega)).facts
  clear hso hF hrd ho hzv HV HO HBY HRD
  go_wp2_with fail
  refine bodyPost_ret (v := .agg #[.int .i64 t.kind, .int .i64 t.num, .slice sa t.kids.length sc]) (by simp [results, Tryz.results29, go_sem, *]) rfl (HP.out t _ p8 _ ?_ hv (by omega) ?_ ?_)
  ·exact (SlIn.set3 HS.out (Nat.lt_succ_self _)).mono (Nat.le_succ _)
  ·exact ((HR8.out.far (show w.heap.size ≠ g by omega)).far (show w.heap.size ≠ g by omega)).far (show w.heap.size ≠ g by omega)
  ·exact ((HO8.out.setCell (Or.inr (Nat.le_refl _)) _).setCell (Or.inr (Nat.le_refl _)) _).setCell (Or.inr (Nat.le_refl _)) _
 | true =>
  have HTV := tuck (HOK.out rfl)
  clear HOK
  go_wp2_with fail
  refine (pick_any (n := 3) _ hlen (by omega) (by omega) (by omega) HRD.out HBY.out hbg).mono ?_
  rintro e w5 ⟨x, rfl, hx0, hx1, hrd, ho⟩
  have hzg : w4.heap.size ≠ g := by omega
  replace HT := tuck (HT.out.only ho hzg)
  replace HBY := tuck (HBY.out.only ho hbg)
  replace HV := tuck (HV.out.only ho (by omega))
  replace HO := tuck (HO.out.trans ho)
  replace HRD := tuck hrd
  replace HI := tuck ((HI.out.mono (show w.heap.size + 1 ≤ w3.heap.size from HZ2.out)).onlyR2 ho hgw)
  clear ho hrd
  by_cases hx : 0 < x
  ·have hxi : decide ((0 : Int) < x) = true := decide_eq_true hx
   obtain ⟨zt, t0, t1, t2, -⟩ := HT.out.facts
   obtain ⟨z1, r0, r1, r2, rf⟩ := HV.out.facts
   go_wp2_with fail
   refine bodyPost_ret (v := .agg #[.int .i64 T.kind, .int .i64 T.num, .slice ta T.kids.length tc]) (by simp [results, Tryz.results29, go_sem, *]) rfl (HP.out T _ (p + 1 + 1) _ ?_ HTV.out (by omega) ?_ ?_)
   ·exact (SlIn.set3 HI.out (Nat.lt_succ_self _)).mono (Nat.le_succ _)
   ·exact ((HRD.out.far (show w.heap.size ≠ g by omega)).far (show w.heap.size ≠ g by omega)).far (show w.heap.size ≠ g by omega)
   ·exact ((HO.out.setCell (Or.inr (Nat.le_refl _)) _).setCell (Or.inr (Nat.le_refl _)) _).setCell (Or.inr (Nat.le_refl _)) _
  ·have hxi : decide ((0 : Int) < x) = false := decide_eq_false hx
   clear HT HI HTV
   go_wp2_with fail
   refine (lany_any _ hlen hbg (by omega) HRD.out HBY.out).mono ?_
   rintro e w8 ⟨t, s, G, p8, rfl, hso, -, hF, hv, hp8, hrd, ho⟩
   obtain ⟨sa, sc, rfl⟩ := hso.form
   have hzv := HV.out.facts.1
   have HS : Hid (SlIn w8 (w.heap.size + 1) t.kids (.slice sa t.kids.length sc)) := tuck (hso.sl (fun x hx => Nat.le_trans hzv (hF x hx).1))
   have HO8 := tuck (HO.out.trans ho)
   have HR8 := tuck hrd
   obtain ⟨z1, r0, r1, r2, rf⟩ := (HV.out.only ho (by omega)).facts
   clear hso hF hrd ho hzv HV HO HBY HRD
   go_wp2_with fail
   refine bodyPost_ret (v := .agg #[.int .i64 t.kind, .int .i64 t.num, .slice sa t.kids.length sc]) (by simp [results, Tryz.results29, go_sem, *]) rfl (HP.out t _ p8 _ ?_ hv (by omega) ?_ ?_)
   ·exact (SlIn.set3 HS.out (Nat.lt_succ_self _)).mono (Nat.le_succ _)
   ·exact ((HR8.out.far (show w.heap.size ≠ g by omega)).far (show w.heap.size ≠ g by omega)).far (show w.heap.size ≠ g by omega)
   ·exact ((HO8.out.setCell (Or.inr (Nat.le_refl _)) _).setCell (Or.inr (Nat.le_refl _)) _).setCell (Or.inr (Nat.le_refl _)) _
end Go.Proofs.YtlbikgnanabjgaaGreat
