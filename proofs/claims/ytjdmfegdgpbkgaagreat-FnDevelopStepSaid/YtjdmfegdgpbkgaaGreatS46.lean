/-
  DevI, TextB.
-/
import Derived.Test.YtjdmfegdgpbkgaaGreatS24
import Derived.Test.YtjdmfegdgpbkgaaGreatS27
import Derived.Test.YtjdmfegdgpbkgaaGreatS31
import Derived.Test.YtjdmfegdgpbkgaaGreatS39
namespace Go.Proofs.YtjdmfegdgpbkgaaGreat
open Go.RowKit
def sumS : List ByteArray → Nat
 | [] => 0
 | s :: L => s.size + sumS L
theorem kidS_le : ∀ (L : List ByteArray) (i : Nat), (kidS L i).size ≤ sumS L
 | [], i => by simp [kidS, ByteArray.size]
 | s :: L, 0 => by rw [sumS]; show s.size ≤ _; omega
 | s :: L, i + 1 => by
  have := kidS_le L i
  rw [sumS]
  show (kidS L i).size ≤ _
  omega
theorem kidS_two : ∀ (L : List ByteArray), (kidS L 0).size + (kidS L 1).size ≤ sumS L
 | [] => by simp [kidS, ByteArray.size]
 | [s] => by rw [sumS, sumS]; show s.size + (ByteArray.mk #[]).size ≤ _; have : (ByteArray.mk #[]).size = 0 := rfl; omega
 | s :: t :: L => by rw [sumS, sumS]; show s.size + t.size ≤ _; omega
theorem sumS_take : ∀ (L : List ByteArray) (q : Nat), sumS (L.take (q + 1)) = sumS (L.take q) + (kidS L q).size
 | [], q => by simp [kidS, sumS, ByteArray.size]
 | s :: L, 0 => by simp [sumS]; rfl
 | s :: L, q + 1 => by
  have := sumS_take L q
  rw [List.take_succ_cons, List.take_succ_cons, sumS, sumS, this]
  show _ = s.size + _ + (kidS L q).size
  omega
theorem sumS_take_le : ∀ (L : List ByteArray) (q : Nat), sumS (L.take q) ≤ sumS L
 | [], q => by simp
 | s :: L, 0 => by simp [sumS]
 | s :: L, q + 1 => by
  have := sumS_take_le L q
  rw [List.take_succ_cons, sumS, sumS]
  omega
theorem joinN_le (L : List ByteArray) : ∀ q, (joinN L q).size ≤ sumS (L.take q) + q
 | 0 => by rw [joinN]; simp [ByteArray.size]
 | q + 1 => by
  have h1 := joinN_le L q
  have h2 := sumS_take L q
  have h3 : (ByteArray.mk #[44]).size = 1 := rfl
  rw [joinN]
  split <;> simp only [ByteArray.size_append, h3] <;> omega
theorem ite_le_of (c : Prop) [Decidable c] (a b m : Nat) (h1 : a ≤ m) (h2 : b ≤ m) : (if c then a else b) ≤ m := by split <;> assumption
mutual
theorem Tm.txt_size : ∀ t : Tm, t.txt.size ≤ 8 * t.size
 | .mk k n l => by
  have hs := txtL_sum l
  have h0 := kidS_le (txtL l) 0
  have h1 := kidS_two (txtL l)
  have h3 := joinN_le (txtL l) 3
  have h4 := joinN_le (txtL l) 4
  have h5 := sumS_take_le (txtL l) 3
  have h6 := sumS_take_le (txtL l) 4
  have h2 := decS_size n.toNat
  have e1 : ∀ a : UInt8, (ByteArray.mk #[a]).size = 1 := fun _ => rfl
  have e2 : ∀ a b : UInt8, (ByteArray.mk #[a, b]).size = 2 := fun _ _ => rfl
  rw [Tm.txt, Tm.size]
  simp only [txtOf, apply_ite ByteArray.size, ByteArray.size_append, e1, e2]
  repeat' (first | refine ite_le_of _ _ _ _ ?_ ?_ | omega)
theorem txtL_sum : ∀ l : List Tm, sumS (txtL l) ≤ 8 * sizes l
 | [] => by rw [txtL, sumS]; omega
 | t :: l => by
  have h1 := Tm.txt_size t
  have h2 := txtL_sum l
  rw [txtL, sumS, sizes]
  omega
end
set_option maxRecDepth 100000 in
set_option maxHeartbeats 1600000 in
theorem list_any (l : List Tm) (hl : l.length ≤ 4) (hsz : sizes l ≤ 1000000)
  (hrec : ∀ i (hi : i < l.length) (w' : World) (s : Value), SlIn w' 0 l[i].kids s → Calls Tryz.prog 95 #[.agg #[.int .i64 l[i].kind, .int .i64 l[i].num, s]] w' (StrPost w' l[i].txt))
  (w : World) (v : Value) (hs : SlIn w 0 l v) : Calls Tryz.prog 104 #[v] w (StrPost w (joinN (txtL l) l.length)) := by
 obtain ⟨a, cap, b, o, rfl, hlm, hp, hc⟩ := hs.open
 have HREC := tuck hrec
 have HC := tuck hc
 have HPP := tuck hp
 have HP : Hid (∀ s w', s = joinN (txtL l) l.length → Below w.heap.size w w' → StrPost w (joinN (txtL l) l.length) (.returned (.string s)) w') := tuck fun s w' h hb => by rw [h]; exact ⟨rfl, hb⟩
 generalize StrPost w (joinN (txtL l) l.length) = post at *
 have HSUM := tuck (txtL_sum l)
 have HSZ := tuck hsz
 clear hs hrec hc hp hsz
 go_enter Tryz.func104, Tryz.ntmps104
 go_wp2_with fail
 go_loopw [3, 4] (fun out i wr => ∃ q : Nat, q ≤ l.length ∧ i = .int .i64 q ∧ out = .string (joinN (txtL l) q) ∧ Below w.heap.size w wr) (fun _ i _ => l.length - (intOf i).toNat)
 case atStart => exact ⟨0, Nat.zero_le _, rfl, rfl, Below.refl _ _⟩
 case round =>
  obtain ⟨q, hq, rfl, rfl, hb⟩ := hrel
  have HB := tuck hb
  clear hb
  by_cases hlt : q < l.length
  ·have hlti : decide ((q : Int) < (l.length : Int)) = true := decide_eq_true (by omega)
   have hlti2 : (q : Int) < (l.length : Int) := by omega
   obtain ⟨rfl, _, hbw⟩ := HPP.out (by intro e; rw [e] at hlt; simp at hlt)
   obtain ⟨s, c0, c1, c2, hs⟩ := HC.out q hlt
   obtain ⟨sa, sc, rfl⟩ := hs.form
   have hjs : (joinN (txtL l) q).size ≤ 8000100 := by
    have h1 := joinN_le (txtL l) q
    have h2 := sumS_take_le (txtL l) q
    have h3 := HSUM.out
    have h4 := HSZ.out
    omega
   have hts : l[q].txt.size ≤ 8000100 := by
    have h1 := l[q].txt_size
    have h2 := size_get_le l q hlt
    have h4 := HSZ.out
    omega
   have HJ : Hid (joinN (txtL l) (q + 1) = (if 0 < q then joinN (txtL l) q ++ ByteArray.mk #[44] else joinN (txtL l) q) ++ l[q].txt) := tuck (by rw [joinN, kidS_txt l q hlt])
   have HK := tuck (fun w' s => HREC.out q hlt w' s)
   have HS := tuck hs
   have hbr : b < wr.heap.size := Nat.lt_of_lt_of_le hbw HB.out.size
   replace c0 := (HB.out.cell (p := ⟨b, o + q * 3, none⟩) hbw).trans c0
   replace c1 := (HB.out.cell (p := ⟨b, o + q * 3 + 1, none⟩) hbw).trans c1
   replace c2 := (HB.out.cell (p := ⟨b, o + q * 3 + 2, none⟩) hbw).trans c2
   clear hs
   generalize l[q] = T at *
   obtain ⟨J, hJ⟩ : ∃ J, J = joinN (txtL l) q := ⟨_, rfl⟩
   obtain ⟨X, hX⟩ : ∃ X, X = T.txt := ⟨_, rfl⟩
   rw [← hJ] at HJ hjs ⊢
   rw [← hX] at HJ HK hts
   clear hJ hX
   have z1 : ¬ (9223372036854775807 < J.size + 1) := by omega
   have z2 : ¬ (9223372036854775807 < J.size + 1 + X.size) := by omega
   have z3 : ¬ (9223372036854775807 < J.size + X.size) := by omega
   clear hjs hts
   by_cases hq0 : 0 < q
   ·have hq0i : decide ((0 : Int) < (q : Int)) = true := decide_eq_true (by omega)
    have HJJ : Hid (joinN (txtL l) (q + 1) = J ++ ByteArray.mk #[44] ++ X) := tuck (by rw [HJ.out, if_pos hq0])
    clear HJ
    go_wp2_with fail
    refine (HK.out _ _ (HS.out.below HB.out)).mono ?_
    rintro e w2 ⟨rfl, hb2⟩
    have HB2 := tuck (bAfter HB.out hb2)
    clear hb2
    go_wp2_with fail
    go_roundw
    case rel => exact ⟨q + 1, by omega, by go_num, by rw [HJJ.out], HB2.out⟩
    case measure => simp [intOf]; omega
   ·have hq0i : decide ((0 : Int) < (q : Int)) = false := decide_eq_false (by omega)
    have HJJ : Hid (joinN (txtL l) (q + 1) = J ++ X) := tuck (by rw [HJ.out, if_neg hq0])
    clear HJ
    go_wp2_with fail
    refine (HK.out _ _ (HS.out.below HB.out)).mono ?_
    rintro e w2 ⟨rfl, hb2⟩
    have HB2 := tuck (bAfter HB.out hb2)
    clear hb2
    go_wp2_with fail
    go_roundw
    case rel => exact ⟨q + 1, by omega, by go_num, by rw [HJJ.out], HB2.out⟩
    case measure => simp [intOf]; omega
  ·have hlti : decide ((q : Int) < (l.length : Int)) = false := decide_eq_false (by omega)
   have hlti2 : ¬ (q : Int) < (l.length : Int) := by omega
   obtain rfl : q = l.length := by omega
   go_wp2_with fail
   exact HP.out _ _ rfl HB.out
end Go.Proofs.YtjdmfegdgpbkgaaGreat
namespace Go.Proofs.YtjdmfegdgpbkgaaGreat
open Go.RowKit
set_option maxRecDepth 100000 in
theorem devNode_any (t : Tm) (hr : t.rootOk) (l : List Tm) (hl : l.length = t.kids.length) (hk : ∀ i (hi : i < l.length), l[i].Valid) (hd : t.redex ≠ 0 → (Tm.mk t.kind t.num l).redex = t.redex) (w : World) (X : Nat → Prop) (hX : ∀ i, X i → i < w.heap.size) (s v : Value) (hs : SlIn w 0 t.kids s) (hv : SlX w X l v) :
  Calls Tryz.prog 16 #[.agg #[.int .i64 t.kind, .int .i64 t.num, s], v] w (ContrPost X w (devC t l).Valid (devC t l)) := by
 obtain ⟨a, c, rfl⟩ := hs.form
 obtain ⟨va, vc, rfl⟩ := hv.form
 have hb2 := below2 w (.cells #[.int .i64 t.kind, .int .i64 t.num, .slice a t.kids.length c] 25) (.cells #[.int .i64 0, .int .i64 0, .slice none 0 0] 25)
 have hb3 := bAfter hb2 (below1 ((w.alloc (.cells #[.int .i64 t.kind, .int .i64 t.num, .slice a t.kids.length c] 25)).alloc (.cells #[.int .i64 0, .int .i64 0, .slice none 0 0] 25)) (.cells #[.int .i64 t.kind, .int .i64 t.num, .slice va l.length vc] 25))
 have HV1 := tuck ((var_new1 w (.cells #[.int .i64 t.kind, .int .i64 t.num, .slice a t.kids.length c] 25) 0 0 (.slice none 0 0)).below (below1 _ (.cells #[.int .i64 t.kind, .int .i64 t.num, .slice va l.length vc] 25)))
 have HV2 := tuck (var_new2 w (.cells #[.int .i64 t.kind, .int .i64 t.num, .slice a t.kids.length c] 25) (.cells #[.int .i64 0, .int .i64 0, .slice none 0 0] 25) t.kind t.num (.slice va l.length vc))
 have HRED := tuck (redI_any t hr _ (.slice a t.kids.length c) (hs.below hb3))
 have HB3 := tuck hb3
 have HZ3 : Hid ((((w.alloc (.cells #[.int .i64 t.kind, .int .i64 t.num, .slice a t.kids.length c] 25)).alloc (.cells #[.int .i64 0, .int .i64 0, .slice none 0 0] 25)).alloc (.cells #[.int .i64 t.kind, .int .i64 t.num, .slice va l.length vc] 25)).heap.size = w.heap.size + 3) := tuck (by simp)
 have HVX := tuck hv
 have HPOST : Hid (∀ (c0 : Bool) (U : Tm) (a' : Option Addr) (c' : Nat) w', Below w.heap.size w w' → c0 = tr (devC t l).Valid → SlX w' X U.kids (.slice a' U.kids.length c') → ((devC t l).Valid → U = devC t l) → ContrPost X w (devC t l).Valid (devC t l) (.returned (.tuple #[.agg #[.int .i64 U.kind, .int .i64 U.num, .slice a' U.kids.length c'], .bool c0])) w') := tuck fun c0 U a' c' w' h1 h2 h3 h4 =>
  ⟨h1, U, _, by rw [h2], h3, h4⟩
 clear hb2 hb3
 by_cases h0 : t.redex = 0
 ·have hdc : devC t l = .mk t.kind t.num l := if_pos h0
  have HVAL : Hid (∀ w', Below w.heap.size w w' → Calls Tryz.prog 14 #[.agg #[.int .i64 t.kind, .int .i64 t.num, .slice va l.length vc]] w' (BoolPost w' (tr (devC t l).Valid))) := tuck fun w' h => by
   rw [hdc]
   exact validI_any (.mk t.kind t.num l) w' _ ⟨_, rfl, (hv.below h).sl⟩
  replace HPOST : Hid (∀ (c0 : Bool) w', Below w.heap.size w w' → c0 = tr (devC t l).Valid → SlX w' X l (.slice va l.length vc) → ContrPost X w (devC t l).Valid (devC t l) (.returned (.tuple #[.agg #[.int .i64 t.kind, .int .i64 t.num, .slice va l.length vc], .bool c0])) w') := tuck fun c0 w' h1 h2 h3 =>
   HPOST.out c0 (.mk t.kind t.num l) va vc w' h1 h2 h3 (fun _ => hdc.symm)
  rw [h0] at HRED
  generalize ContrPost X w (devC t l).Valid (devC t l) = post at *
  generalize tr (devC t l).Valid = cc at *
  clear hs hv hX hr hk hd h0 hdc hl
  go_enter Tryz.func16, Tryz.ntmps16
  go_wp2_with fail
  generalize ((w.alloc (.cells #[.int .i64 t.kind, .int .i64 t.num, .slice a t.kids.length c] 25)).alloc (.cells #[.int .i64 0, .int .i64 0, .slice none 0 0] 25)).alloc (.cells #[.int .i64 t.kind, .int .i64 t.num, .slice va l.length vc] 25) = W0 at *
  refine HRED.out.mono ?_
  rintro e w1 ⟨rfl, hb1⟩
  have HB1 := tuck (bAfter HB3.out hb1)
  have HN1 := tuck (HV2.out.below hb1)
  have HR1 := tuck (HV1.out.below hb1)
  have HLT : Hid (w.heap.size + 1 < w1.heap.size) := tuck (HV1.out.below hb1).facts.1
  clear hb1 HRED
  go_wp2_with fail
  have hgn : w.heap.size + 1 + 1 ≠ w.heap.size + 1 := by omega
  have HQ0 : Hid ((fun w' : World => w.heap.size + 1 + 1 < w'.heap.size ∧ w'.cell? ⟨w.heap.size + 1 + 1, 0, none⟩ = some (.int .i64 t.kind) ∧ w'.cell? ⟨w.heap.size + 1 + 1, 1, none⟩ = some (.int .i64 t.num) ∧ w'.cell? ⟨w.heap.size + 1 + 1, 2, none⟩ = some (.slice va l.length vc)) w1.drew) := tuck ⟨HN1.out.facts.1, HN1.out.facts.2.1, HN1.out.facts.2.2.1, HN1.out.facts.2.2.2.1⟩
  go_region_held3 (fun w' => w.heap.size + 1 + 1 < w'.heap.size ∧ w'.cell? ⟨w.heap.size + 1 + 1, 0, none⟩ = some (.int .i64 t.kind) ∧ w'.cell? ⟨w.heap.size + 1 + 1, 1, none⟩ = some (.int .i64 t.num) ∧ w'.cell? ⟨w.heap.size + 1 + 1, 2, none⟩ = some (.slice va l.length vc)) (first | exact HQ0.out | exact HK2.out | exact HK3.out) ((go_at_call 14; refine (HVAL.out _ (bAfter HB1.out (Below.refl _ _).drew)).mono ?_; rintro e w2 ⟨rfl, hb2⟩; have HB2 := tuck (bAfter HB1.out (bAfter (Below.refl _ _).drew hb2)); have HQN2 := tuck ((HN1.out.below (Below.refl _ _).drew).below hb2); have HQN3 := tuck (HQN2.out.far3 hgn 0 1 2 (.int .i64 t.kind) (.int .i64 t.num) (.slice va l.length vc)); have HK2 : Hid ((fun w' : World => w.heap.size + 1 + 1 < w'.heap.size ∧ w'.cell? ⟨w.heap.size + 1 + 1, 0, none⟩ = some (.int .i64 t.kind) ∧ w'.cell? ⟨w.heap.size + 1 + 1, 1, none⟩ = some (.int .i64 t.num) ∧ w'.cell? ⟨w.heap.size + 1 + 1, 2, none⟩ = some (.slice va l.length vc)) w2) := tuck ⟨HQN2.out.facts.1, HQN2.out.facts.2.1, HQN2.out.facts.2.2.1, HQN2.out.facts.2.2.2.1⟩; have HK3 := tuck (show (fun w' : World => w.heap.size + 1 + 1 < w'.heap.size ∧ w'.cell? ⟨w.heap.size + 1 + 1, 0, none⟩ = some (.int .i64 t.kind) ∧ w'.cell? ⟨w.heap.size + 1 + 1, 1, none⟩ = some (.int .i64 t.num) ∧ w'.cell? ⟨w.heap.size + 1 + 1, 2, none⟩ = some (.slice va l.length vc)) _ from ⟨HQN3.out.facts.1, HQN3.out.facts.2.1, HQN3.out.facts.2.2.1, HQN3.out.facts.2.2.2.1⟩); obtain ⟨zr, r0, r1, r2, rf⟩ := ((HR1.out.below (Below.refl _ _).drew).below hb2).facts; clear hb2))
  all_goals (try go_wp2_with fail)
  all_goals
   refine bodyPost_ret (v := .tuple #[.agg #[.int .i64 t.kind, .int .i64 t.num, .slice va l.length vc], .bool cc]) (by simp [results, Tryz.results16, go_sem, *]) rfl (HPOST.out _ _ ?_ rfl ?_)
   ·exact bSet3 HB2.out (Nat.le_succ _) _ _ _ _ _ _
   ·exact ((HVX.out.widen HB2.out (w.heap.size + 3)).set3 (Or.inr ⟨Nat.le_succ _, by omega⟩) _ _ _ _ _ _).narrow fun i h => Or.inl h
 ·have hne : (t.redex == 0) = false := by simpa using h0
  have hdr := hd h0
  have hdc : devC t l = (Tm.mk t.kind t.num l).contr := if_neg h0
  have hrn : (Tm.mk t.kind t.num l).rootOk := ⟨by show arity t.kind = l.length; rw [hl]; exact hr.1, hr.2⟩
  have HCON : Hid (∀ w', Below w.heap.size w w' → w.heap.size + 3 ≤ w'.heap.size → Calls Tryz.prog 34 #[.agg #[.int .i64 t.kind, .int .i64 t.num, .slice va l.length vc]] w' (ContrPost (With X w (w.heap.size + 3)) w' (devC t l).Valid (devC t l))) := tuck fun w' h hz => by
   have h2 := contract_any (.mk t.kind t.num l) hrn hk w' (With X w (w.heap.size + 3)) (fun i hi => by
    rcases hi with hi | hi
    ·have := hX i hi; have := h.size; omega
    ·omega) _ (hv.widen h _)
   rw [show ((Tm.mk t.kind t.num l).redex ≠ 0 ∧ (Tm.mk t.kind t.num l).contr.Valid) = (devC t l).Valid from propext (by rw [hdc]; exact ⟨fun h => h.2, fun h => ⟨by rw [hdr]; exact h0, h⟩⟩), ← hdc] at h2
   exact h2
  generalize t.redex = R at *
  generalize ContrPost X w (devC t l).Valid (devC t l) = post at *
  clear hs hv hX hr hk hd h0 hdc hdr hrn hl
  generalize (devC t l).Valid = V at *
  generalize devC t l = C at *
  go_enter Tryz.func16, Tryz.ntmps16
  go_wp2_with fail
  generalize ((w.alloc (.cells #[.int .i64 t.kind, .int .i64 t.num, .slice a t.kids.length c] 25)).alloc (.cells #[.int .i64 0, .int .i64 0, .slice none 0 0] 25)).alloc (.cells #[.int .i64 t.kind, .int .i64 t.num, .slice va l.length vc] 25) = W0 at *
  refine HRED.out.mono ?_
  rintro e w1 ⟨rfl, hb1⟩
  have HB1 := tuck (bAfter HB3.out hb1)
  obtain ⟨zn, n0, n1, n2, -⟩ := (HV2.out.below hb1).facts
  have HR1 := tuck (HV1.out.below hb1)
  have hlt : w.heap.size + 3 ≤ w1.heap.size := by omega
  clear hb1 HRED
  go_wp2_with fail
  refine (HCON.out _ HB1.out hlt).mono ?_
  rintro e w2 hp2
  obtain ⟨U, ua, uc, rfl, hb2, hs2, hU⟩ := hp2.open
  obtain ⟨zr, r0, r1, r2, rf⟩ := (HR1.out.below hb2).facts
  have HB2 := tuck (bAfter HB1.out hb2)
  have HS2 := tuck hs2
  have HU := tuck hU
  clear hp2 hb2 hs2 hU n0 n1 n2
  go_wp2_with fail
  refine bodyPost_ret (v := .tuple #[.agg #[.int .i64 U.kind, .int .i64 U.num, .slice ua U.kids.length uc], .bool (tr V)]) (by simp [results, Tryz.results16, go_sem, *]) rfl (HPOST.out _ U ua uc _ ?_ rfl ?_ HU.out)
  ·exact bSet3 HB2.out (Nat.le_succ _) _ _ _ _ _ _
  ·exact (HS2.out.set3 (Or.inr ⟨Nat.le_succ _, by omega⟩) _ _ _ _ _ _).narrow fun i h => Or.inl h
end Go.Proofs.YtjdmfegdgpbkgaaGreat
