/-
  DfH.
-/
import Derived.Test.YtpddjebdncaceaaGreatB18
import Derived.Test.YtpddjebdncaceaaGreatB22
import Derived.Test.YtpddjebdncaceaaGreatB26
namespace Go.Proofs.YtpddjebdncaceaaGreat
open Go.RowKit
set_option linter.unusedVariables false
set_option linter.unusedSimpArgs false
def flat : List (Tm × Tm) → List Tm
 | [] => []
 | (t, u) :: l => t :: u :: flat l
theorem flat_length : ∀ l : List (Tm × Tm), (flat l).length = 2 * l.length
 | [] => rfl
 | (t, u) :: l => by
  simp only [flat, List.length_cons, flat_length l]
  omega
theorem flat_fst : ∀ (l : List (Tm × Tm)) (q : Nat) (h : q < l.length), (flat l)[2 * q]'(by rw [flat_length]; omega) = l[q].1
 | [], q, h => by simp at h
 | (t, u) :: l, 0, h => rfl
 | (t, u) :: l, q + 1, h => by
  have := flat_fst l q (by simpa using h)
  simp only [flat, List.getElem_cons_succ]
  rw [← this]
  rfl
theorem flat_snd : ∀ (l : List (Tm × Tm)) (q : Nat) (h : q < l.length), (flat l)[2 * q + 1]'(by rw [flat_length]; omega) = l[q].2
 | [], q, h => by simp at h
 | (t, u) :: l, 0, h => rfl
 | (t, u) :: l, q + 1, h => by
  have := flat_snd l q (by simpa using h)
  simp only [flat, List.getElem_cons_succ]
  rw [← this]
  rfl
theorem flat_sizes : ∀ l : List (Tm × Tm), sizes (flat l) = dsizes l + l.length
 | [] => rfl
 | (t, u) :: l => by
  rw [flat, sizes, sizes, flat_sizes l, dsizes, List.length_cons, t.size_eq, u.size_eq]
  omega
def DfOwn (w : World) (l : List (Tm × Tm)) (v : Value) (F : List Nat) : Prop :=
 ∃ (cap b : Nat) (F' : List Nat), v = .slice (some ⟨b, 0, none⟩) l.length cap ∧ l.length ≤ maxLen ∧ F = b :: F' ∧ (∀ i, w.frozen? ⟨b, i, none⟩ = false) ∧ RowOwn w (flat l) b 0 F'
theorem DfOwn.keep {w w' : World} {l : List (Tm × Tm)} {v : Value} {F : List Nat} (h : DfOwn w l v F) (hF : ∀ g ∈ F, SameAt w w' g) : DfOwn w' l v F := by
 obtain ⟨cap, b, F', h0, h1, rfl, h3, h4⟩ := h
 exact ⟨cap, b, F', h0, h1, rfl, fun i => (hF b (by simp) i).2.trans (h3 i), h4.keep (fun i _ => (hF b (by simp) _).1) (fun g hg => hF g (by simp [hg]))⟩
theorem DfOwn.df {w : World} {B : Nat} {l : List (Tm × Tm)} {v : Value} {F : List Nat} (h : DfOwn w l v F) (hB : ∀ g ∈ F, B ≤ g) (hb : ∀ g ∈ F, g < w.heap.size) : DfIn w B l v := by
 obtain ⟨cap, b, F', h0, h1, rfl, h3, h4⟩ := h
 have hr := h4.at (B := B) (fun g hg => hB g (by simp [hg]))
 refine ⟨_, cap, b, 0, h0, h1, fun _ => ⟨rfl, hB b (by simp), hb b (by simp)⟩, fun i hi => ?_⟩
 have k1 := hr.get (2 * i) (by rw [flat_length]; omega)
 have k2 := hr.get (2 * i + 1) (by rw [flat_length]; omega)
 rw [flat_fst l i hi] at k1
 rw [flat_snd l i hi] at k2
 obtain ⟨s, c0, c1, c2, hs⟩ := TmAt_iff.1 k1
 obtain ⟨u, d0, d1, d2, hu⟩ := TmAt_iff.1 k2
 rw [show 0 + 2 * i * 3 = 0 + i * 6 by omega] at c0 c1 c2
 rw [show 0 + (2 * i + 1) * 3 = 0 + i * 6 + 3 by omega] at d0 d1 d2
 exact ⟨s, u, c0, c1, c2, d0, d1, d2, hs, hu⟩
set_option maxRecDepth 100000 in
set_option maxHeartbeats 1600000 in
theorem markDefS_any (l : List (Tm × Tm)) (F : List Nat) (k : Int) (w : World) (v : Value) (hk0 : 0 ≤ k) (hk1 : k + 2 * sizes (flat l) ≤ 4611686018427387904) (hnd : F.Nodup) (hown : DfOwn w l v F) :
  Calls Tryz.prog 15 #[v, .int .i64 k] w fun e w' => e = .returned (.int .i64 (k + 2 * sizes (flat l))) ∧ But F w w' := by
 obtain ⟨cap, b, F', rfl, hl, rfl, hfz, hrow⟩ := hown
 have HP : Hid (∀ W x, OnlyIn (b :: F') w W → x = k + 2 * (sizes (flat l) : Int) → (fun (e : Ending) (w' : World) => e = .returned (.int .i64 (k + 2 * sizes (flat l))) ∧ But (b :: F') w w') (.returned (.int .i64 x)) W) := tuck fun W x ho hx => ⟨by rw [hx], ho.but⟩
 generalize (fun (e : Ending) (w' : World) => e = .returned (.int .i64 (k + 2 * sizes (flat l))) ∧ But (b :: F') w w') = post at *
 have hfl := flat_length l
 have HROW := tuck hrow
 have HFZ := tuck hfz
 have HND := tuck hnd
 clear hrow hfz hnd
 unfold maxLen at hl
 go_enter Tryz.func15, Tryz.ntmps15
 go_wp2
 go_loopw [5, 1] (fun i c wr => ∃ (q : Nat) (kq : Int), q ≤ l.length ∧ i = .int .i64 q ∧ c = .int .i64 kq ∧ kq = k + 2 * sizes ((flat l).take (2 * q)) ∧ OnlyIn (b :: F') w wr ∧ RowOwn wr (markL ((flat l).take (2 * q)) k ++ (flat l).drop (2 * q)) b 0 F') (fun i _ _ => l.length - (intOf i).toNat)
 case atStart => exact ⟨0, k, Nat.zero_le _, rfl, rfl, by simp [sizes], OnlyIn.refl _ _, by rw [Nat.mul_zero, List.take_zero, markL, List.nil_append, List.drop_zero]; exact HROW.out⟩
 case round =>
  obtain ⟨q, kq, hq, rfl, rfl, hkq, ho, hrow⟩ := hrel
  by_cases hlt : q < l.length
  ·have hlti : ((q : Int) < (l.length : Int)) := by omega
   have hqi : (0 : Int) ≤ (q : Int) := by omega
   have hq1 : 2 * q < (flat l).length := by omega
   have hq2 : 2 * q + 1 < (flat l).length := by omega
   have hst := sizes_take_succ (flat l) (2 * q) hq1
   have hst2 := sizes_take_succ (flat l) (2 * q + 1) hq2
   have htr := sizes_take_le (flat l) (2 * q + 1 + 1)
   rw [Tm.size_eq] at hst hst2
   obtain ⟨s, G, c0, c1, c2, hs, hbG, hG, hnext⟩ := mark_step hrow HND.out hq1
   obtain ⟨sa, sc, rfl⟩ := hs.form
   have hbw : b < wr.heap.size := World.block_lt_of_cell? wr _ c0
   have HFR : Hid (∀ (W : World), OnlyIn (b :: F') w W → ∀ i, W.frozen? ⟨b, i, none⟩ = false) := tuck fun W h i => (h.frozen _).trans (HFZ.out i)
   have hfr := HFR.out wr ho
   have e6 : 2 * q * 3 = q * 6 := by omega
   rw [e6] at c0 c1 c2
   have hkb : 0 ≤ kq ∧ kq + 2 + 2 * (sizes (flat l)[2 * q].kids : Int) + 2 + 2 * (sizes (flat l)[2 * q + 1].kids : Int) ≤ 4611686018427387904 := by omega
   obtain ⟨hkb0, hkb1⟩ := hkb
   have HS := tuck (hs.keep (w' := (wr.setCell ⟨b, q * 6, none⟩ (.int .i64 kq)).setCell ⟨b, q * 6 + 1, none⟩ (.int .i64 (kq + 1))) (fun g hg => (sameAt_set (by intro e; have e' : g = b := e; rw [e'] at hg; exact hbG hg)).trans (sameAt_set (by intro e; have e' : g = b := e; rw [e'] at hg; exact hbG hg))))
   have e2 : kq + 2 = kq + 1 + 1 := by omega
   have hnx := fun w2 => hnext kq w2 hkq
   rw [e6] at hnx
   simp only [e2] at hnx
   have HNX := tuck hnx
   have HMK := tuck (fun (W : World) (hh : SlOwn W (flat l)[2 * q].kids (.slice sa (flat l)[2 * q].kids.length sc) G) => markS_any (flat l)[2 * q].kids G (kq + 1 + 1) W _ (by omega) (by omega) hG hh)
   have HO := tuck ho
   have HST := tuck (show kq + 1 + 1 + 2 * (sizes (flat l)[2 * q].kids : Int) = k + 2 * (sizes ((flat l).take (2 * q + 1)) : Int) by omega)
   have HST2 := tuck (show kq + 1 + 1 + 2 * (sizes (flat l)[2 * q].kids : Int) + 1 + 1 + 2 * (sizes (flat l)[2 * q + 1].kids : Int) = k + 2 * (sizes ((flat l).take (2 * q + 1 + 1)) : Int) by omega)
   clear hs hnext hnx hG ho hkq hst hst2 htr hrow hbG e2
   obtain ⟨x, hx⟩ : ∃ x, x = (flat l)[2 * q] := ⟨_, rfl⟩
   rw [← hx] at HS HMK HST HST2 hkb1 c0 c1 c2
   have HX := tuck hx
   clear hx
   go_wp2_with fail
   refine (HMK.out _ HS.out).mono ?_
   rintro e w2 ⟨rfl, hs2, ho2⟩
   obtain ⟨hrow2, hon2⟩ := HNX.out w2 (by rw [← HX.out]; exact hs2) ho2
   obtain ⟨k2, hk2⟩ : ∃ k2, k2 = kq + 1 + 1 + 2 * (sizes x.kids : Int) := ⟨_, rfl⟩
   rw [← hk2] at HST HST2
   rw [← hk2]
   have HK2 := tuck hk2
   have HO2 := tuck (HO.out.trans hon2)
   clear HMK HS c0 c1 c2 hs2 ho2 hfr HNX hon2 HO
   obtain ⟨s', G2, d0, d1, d2, hs', hbG2, hG2, hnext2⟩ := mark_step hrow2 HND.out hq2
   obtain ⟨ua, uc, rfl⟩ := hs'.form
   have e6' : (2 * q + 1) * 3 = q * 6 + 3 := by omega
   rw [e6'] at d0 d1 d2
   have hfr := HFR.out w2 HO2.out
   have hbw2 : b < w2.heap.size := World.block_lt_of_cell? w2 _ d0
   have hkb2 : 0 ≤ k2 ∧ k2 + 2 + 2 * (sizes (flat l)[2 * q + 1].kids : Int) ≤ 4611686018427387904 := by omega
   obtain ⟨hk2a, hk2b⟩ := hkb2
   clear hk2
   have HS' := tuck (hs'.keep (w' := (w2.setCell ⟨b, q * 6 + 3, none⟩ (.int .i64 k2)).setCell ⟨b, q * 6 + 3 + 1, none⟩ (.int .i64 (k2 + 1))) (fun g hg => (sameAt_set (by intro e; have e' : g = b := e; rw [e'] at hg; exact hbG2 hg)).trans (sameAt_set (by intro e; have e' : g = b := e; rw [e'] at hg; exact hbG2 hg))))
   have e2 : k2 + 2 = k2 + 1 + 1 := by omega
   have hnx2 := fun w3 => hnext2 k2 w3 HST.out
   rw [e6'] at hnx2
   simp only [e2] at hnx2
   have HNX2 := tuck hnx2
   have HMK2 := tuck (fun (W : World) (hh : SlOwn W (flat l)[2 * q + 1].kids (.slice ua (flat l)[2 * q + 1].kids.length uc) G2) => markS_any (flat l)[2 * q + 1].kids G2 (k2 + 1 + 1) W _ (by omega) (by omega) hG2 hh)
   clear hs' hnext2 hnx2 hG2 hrow2 hbG2 e2
   obtain ⟨y, hy⟩ : ∃ y, y = (flat l)[2 * q + 1] := ⟨_, rfl⟩
   rw [← hy] at HS' HMK2 HST2 hk2b hkb1 d0 d1 d2
   have HY := tuck hy
   clear hy
   go_wp2_with fail
   refine (HMK2.out _ HS'.out).mono ?_
   rintro e w3 ⟨rfl, hs3, ho3⟩
   obtain ⟨hrow3, hon3⟩ := HNX2.out w3 (by rw [← HY.out]; exact hs3) ho3
   have HO3 := tuck (HO2.out.trans hon3)
   have HR3 := tuck hrow3
   clear HMK2 HS' d0 d1 d2 hs3 ho3 hfr HNX2 hrow3 hon3
   go_wp2_with fail
   go_roundw
   case rel => exact ⟨q + 1, _, by omega, by go_num, rfl, by have := HST2.out; rw [show 2 * (q + 1) = 2 * q + 1 + 1 by omega]; omega, HO3.out, by rw [show 2 * (q + 1) = 2 * q + 1 + 1 by omega]; exact HR3.out⟩
   case measure => simp [intOf]; omega
  ·have hge2 : ¬ ((q : Int) < (l.length : Int)) := by omega
   have HO := tuck ho
   have HX := tuck (show kq = k + 2 * (sizes (flat l) : Int) by rw [hkq, List.take_of_length_le (by omega)])
   clear ho hrow hkq
   go_wp2
   exact HP.out _ _ HO.out HX.out
end Go.Proofs.YtpddjebdncaceaaGreat
