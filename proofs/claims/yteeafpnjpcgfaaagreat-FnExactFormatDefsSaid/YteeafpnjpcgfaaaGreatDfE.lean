/-
  spec.DefsValid.
-/
import Derived.Test.YteeafpnjpcgfaaaGreatDfD
import Derived.Test.YteeafpnjpcgfaaaGreatSFree
import Derived.BigQuiet
namespace Go.Proofs.YteeafpnjpcgfaaaGreat
open Go.RowKit

/-- The definition i of a list is valid there. -/
def DefOk (l : List (Tm × Tm)) (i : Nat) (h : i < l.length) : Prop := (0 ≤ maxFreeOf l[i].1 ∧ maxFreeOf l[i].1 ≤ i) ∧ 0 ≤ maxFreeOf l[i].2 ∧ maxFreeOf l[i].2 ≤ i
def DefsOk (l : List (Tm × Tm)) : Prop := l.length ≤ 8 ∧ ∀ i (h : i < l.length), DefOk l i h

set_option maxRecDepth 100000 in
set_option maxHeartbeats 4000000 in
theorem defsValidS_any (l : List (Tm × Tm)) (w : World) (v : Value) (hin : DfIn w 0 l v) : Calls Tryz.prog 47 #[v] w (BoolPost w (tr (DefsOk l))) := by
  obtain ⟨a, cap, b, o, rfl, hl, hp, hc⟩ := hin
  have HP := tuck hp
  have HC := tuck hc
  unfold maxLen at hl
  clear hp hc
  have HF : Hid (¬ DefsOk l → ∀ W, Below w.heap.size w W → BoolPost w (tr (DefsOk l)) (.returned (.bool false)) W) := tuck fun h W hb => by rw [tr_not h]; exact ⟨rfl, hb⟩
  have HT : Hid ((∀ i (h : i < l.length), DefOk l i h) → ∀ W, Below w.heap.size w W → BoolPost w (tr (DefsOk l)) (.returned (.bool (decide ((l.length : Int) ≤ 8)))) W) := tuck fun h W hb => by
    by_cases h8 : l.length ≤ 8
    · rw [tr_of ⟨h8, h⟩]
      exact ⟨by rw [decide_eq_true (by omega)], hb⟩
    · rw [tr_not fun h => h8 h.1]
      exact ⟨by rw [decide_eq_false (by omega)], hb⟩
  generalize BoolPost w (tr (DefsOk l)) = post at *
  go_enter Tryz.func47, Tryz.ntmps47
  go_wp2
  go_loopw [3] (fun i wr => ∃ q : Nat, q ≤ l.length ∧ i = .int .i64 q ∧ Below w.heap.size w wr ∧ ∀ i (h : i < l.length), i < q → DefOk l i h) (fun i _ => l.length - (intOf i).toNat)
  case atStart => exact ⟨0, Nat.zero_le _, rfl, Below.refl _ _, fun i _ h => absurd h (Nat.not_lt_zero _)⟩
  case round =>
    obtain ⟨q, hq, rfl, hb, hall⟩ := hrel
    by_cases hlt : q < l.length
    · have hlti : ((q : Int) < (l.length : Int)) := by omega
      have hqi : (0 : Int) ≤ (q : Int) := by omega
      obtain ⟨rfl, -, hbw⟩ := HP.out (by omega)
      obtain ⟨s, u, c0, c1, c2, c3, c4, c5, hs, hu⟩ := HC.out q hlt
      obtain ⟨sa, sc, rfl⟩ := hs.form
      obtain ⟨ua, uc, rfl⟩ := hu.form
      have hcc : ∀ j, wr.cell? ⟨b, j, none⟩ = w.cell? ⟨b, j, none⟩ := fun j => hb.cell (p := ⟨b, j, none⟩) hbw
      rw [← hcc] at c0 c1 c2 c3 c4 c5
      have HB := tuck hb
      have HALL := tuck hall
      obtain ⟨m1, hm1⟩ : ∃ m, m = maxFreeOf l[q].1 := ⟨_, rfl⟩
      obtain ⟨m2, hm2⟩ : ∃ m, m = maxFreeOf l[q].2 := ⟨_, rfl⟩
      have HM1 : Hid (∀ (W : World), Below wr.heap.size wr W → Calls Tryz.prog 39 #[.agg #[.int .i64 l[q].1.kind, .int .i64 l[q].1.num, .slice sa l[q].1.kids.length sc]] W (IntPost W m1)) := tuck fun W hW => by rw [hm1]; exact maxFreeS_any _ W _ ⟨_, rfl, (hs.below hb).below hW⟩
      have HM2 : Hid (∀ (W : World), Below wr.heap.size wr W → Calls Tryz.prog 39 #[.agg #[.int .i64 l[q].2.kind, .int .i64 l[q].2.num, .slice ua l[q].2.kids.length uc]] W (IntPost W m2)) := tuck fun W hW => by rw [hm2]; exact maxFreeS_any _ W _ ⟨_, rfl, (hu.below hb).below hW⟩
      have HOK : Hid (DefOk l q hlt ↔ (0 ≤ m1 ∧ m1 ≤ q) ∧ 0 ≤ m2 ∧ m2 ≤ q) := tuck (by rw [hm1, hm2]; exact Iff.rfl)
      clear hb hall hs hu hcc hm1 hm2
      have HCL : Hid (∀ W : World, Below wr.heap.size wr W → W.cell? ⟨b, o + q * 6, none⟩ = some (.int .i64 l[q].1.kind) ∧ W.cell? ⟨b, o + q * 6 + 1, none⟩ = some (.int .i64 l[q].1.num) ∧ W.cell? ⟨b, o + q * 6 + 2, none⟩ = some (.slice sa l[q].1.kids.length sc) ∧ W.cell? ⟨b, o + q * 6 + 3, none⟩ = some (.int .i64 l[q].2.kind) ∧ W.cell? ⟨b, o + q * 6 + 4, none⟩ = some (.int .i64 l[q].2.num) ∧ W.cell? ⟨b, o + q * 6 + 5, none⟩ = some (.slice ua l[q].2.kids.length uc)) := tuck fun W hW => by
        have hbr : b < wr.heap.size := World.block_lt_of_cell? wr _ c0
        have hc : ∀ j, W.cell? ⟨b, j, none⟩ = wr.cell? ⟨b, j, none⟩ := fun j => hW.cell (p := ⟨b, j, none⟩) hbr
        exact ⟨by rw [hc]; exact c0, by rw [hc]; exact c1, by rw [hc]; exact c2, by rw [hc]; exact c3, by rw [hc]; exact c4, by rw [hc]; exact c5⟩
      generalize l[q] = x at *
      obtain ⟨x1, x2⟩ := x
      simp only at HM1 HM2 HCL c0 c1 c2 c3 c4 c5
      have HW : Hid (Below wr.heap.size wr wr) := tuck (Below.refl _ _)
      by_cases g0 : m1 < 0
      · have d0 : decide (m1 < 0) = true := decide_eq_true g0
        have HNO := tuck (show ¬ DefsOk l from fun h => by have h2 := HOK.out.1 (h.2 q hlt); omega)
        go_wp2_with fail
        clear c0 c1 c2 c3 c4 c5
        refine (HM1.out _ HW.out).mono ?_
        rintro e v1 ⟨rfl, hbn⟩
        replace HW := tuck (bAfter HW.out hbn)
        obtain ⟨c0, c1, c2, c3, c4, c5⟩ := HCL.out _ HW.out
        clear hbn
        go_wp2_with fail
        exact HF.out HNO.out _ (bAfter HB.out HW.out)
      have d0 : decide (m1 < 0) = false := decide_eq_false g0
      by_cases g1 : m2 < 0
      · have d1 : decide (m2 < 0) = true := decide_eq_true g1
        have HNO := tuck (show ¬ DefsOk l from fun h => by have h2 := HOK.out.1 (h.2 q hlt); omega)
        go_wp2_with fail
        clear c0 c1 c2 c3 c4 c5
        refine (HM1.out _ HW.out).mono ?_
        rintro e v1 ⟨rfl, hbn⟩
        replace HW := tuck (bAfter HW.out hbn)
        obtain ⟨c0, c1, c2, c3, c4, c5⟩ := HCL.out _ HW.out
        clear hbn
        go_wp2_with fail
        clear c0 c1 c2 c3 c4 c5
        refine (HM2.out _ HW.out).mono ?_
        rintro e v2 ⟨rfl, hbn⟩
        replace HW := tuck (bAfter HW.out hbn)
        obtain ⟨c0, c1, c2, c3, c4, c5⟩ := HCL.out _ HW.out
        clear hbn
        go_wp2_with fail
        exact HF.out HNO.out _ (bAfter HB.out HW.out)
      have d1 : decide (m2 < 0) = false := decide_eq_false g1
      by_cases g2 : (q : Int) < m1
      · have d2 : decide ((q : Int) < m1) = true := decide_eq_true g2
        have HNO := tuck (show ¬ DefsOk l from fun h => by have h2 := HOK.out.1 (h.2 q hlt); omega)
        go_wp2_with fail
        clear c0 c1 c2 c3 c4 c5
        refine (HM1.out _ HW.out).mono ?_
        rintro e v1 ⟨rfl, hbn⟩
        replace HW := tuck (bAfter HW.out hbn)
        obtain ⟨c0, c1, c2, c3, c4, c5⟩ := HCL.out _ HW.out
        clear hbn
        go_wp2_with fail
        clear c0 c1 c2 c3 c4 c5
        refine (HM2.out _ HW.out).mono ?_
        rintro e v2 ⟨rfl, hbn⟩
        replace HW := tuck (bAfter HW.out hbn)
        obtain ⟨c0, c1, c2, c3, c4, c5⟩ := HCL.out _ HW.out
        clear hbn
        go_wp2_with fail
        clear c0 c1 c2 c3 c4 c5
        refine (HM1.out _ HW.out).mono ?_
        rintro e v3 ⟨rfl, hbn⟩
        replace HW := tuck (bAfter HW.out hbn)
        obtain ⟨c0, c1, c2, c3, c4, c5⟩ := HCL.out _ HW.out
        clear hbn
        go_wp2_with fail
        exact HF.out HNO.out _ (bAfter HB.out HW.out)
      have d2 : decide ((q : Int) < m1) = false := decide_eq_false g2
      by_cases g3 : (q : Int) < m2
      · have d3 : decide ((q : Int) < m2) = true := decide_eq_true g3
        have HNO := tuck (show ¬ DefsOk l from fun h => by have h2 := HOK.out.1 (h.2 q hlt); omega)
        go_wp2_with fail
        clear c0 c1 c2 c3 c4 c5
        refine (HM1.out _ HW.out).mono ?_
        rintro e v1 ⟨rfl, hbn⟩
        replace HW := tuck (bAfter HW.out hbn)
        obtain ⟨c0, c1, c2, c3, c4, c5⟩ := HCL.out _ HW.out
        clear hbn
        go_wp2_with fail
        clear c0 c1 c2 c3 c4 c5
        refine (HM2.out _ HW.out).mono ?_
        rintro e v2 ⟨rfl, hbn⟩
        replace HW := tuck (bAfter HW.out hbn)
        obtain ⟨c0, c1, c2, c3, c4, c5⟩ := HCL.out _ HW.out
        clear hbn
        go_wp2_with fail
        clear c0 c1 c2 c3 c4 c5
        refine (HM1.out _ HW.out).mono ?_
        rintro e v3 ⟨rfl, hbn⟩
        replace HW := tuck (bAfter HW.out hbn)
        obtain ⟨c0, c1, c2, c3, c4, c5⟩ := HCL.out _ HW.out
        clear hbn
        go_wp2_with fail
        clear c0 c1 c2 c3 c4 c5
        refine (HM2.out _ HW.out).mono ?_
        rintro e v4 ⟨rfl, hbn⟩
        replace HW := tuck (bAfter HW.out hbn)
        obtain ⟨c0, c1, c2, c3, c4, c5⟩ := HCL.out _ HW.out
        clear hbn
        go_wp2_with fail
        exact HF.out HNO.out _ (bAfter HB.out HW.out)
      have d3 : decide ((q : Int) < m2) = false := decide_eq_false g3
      have HYES := tuck (HOK.out.2 ⟨⟨by omega, by omega⟩, by omega, by omega⟩)
      go_wp2_with fail
      clear c0 c1 c2 c3 c4 c5
      refine (HM1.out _ HW.out).mono ?_
      rintro e v1 ⟨rfl, hbn⟩
      replace HW := tuck (bAfter HW.out hbn)
      obtain ⟨c0, c1, c2, c3, c4, c5⟩ := HCL.out _ HW.out
      clear hbn
      go_wp2_with fail
      clear c0 c1 c2 c3 c4 c5
      refine (HM2.out _ HW.out).mono ?_
      rintro e v2 ⟨rfl, hbn⟩
      replace HW := tuck (bAfter HW.out hbn)
      obtain ⟨c0, c1, c2, c3, c4, c5⟩ := HCL.out _ HW.out
      clear hbn
      go_wp2_with fail
      clear c0 c1 c2 c3 c4 c5
      refine (HM1.out _ HW.out).mono ?_
      rintro e v3 ⟨rfl, hbn⟩
      replace HW := tuck (bAfter HW.out hbn)
      obtain ⟨c0, c1, c2, c3, c4, c5⟩ := HCL.out _ HW.out
      clear hbn
      go_wp2_with fail
      clear c0 c1 c2 c3 c4 c5
      refine (HM2.out _ HW.out).mono ?_
      rintro e v4 ⟨rfl, hbn⟩
      replace HW := tuck (bAfter HW.out hbn)
      obtain ⟨c0, c1, c2, c3, c4, c5⟩ := HCL.out _ HW.out
      clear hbn
      go_wp2_with fail
      go_roundw
      case rel => exact ⟨q + 1, by omega, by go_num, bAfter HB.out HW.out, fun i h hi => by
        by_cases e : i = q
        · subst e; exact HYES.out
        · exact HALL.out i h (by omega)⟩
      case measure => simp [intOf]; omega
    · have hge2 : ¬ ((q : Int) < (l.length : Int)) := by omega
      have e : q = l.length := by omega
      have HB := tuck hb
      have HALL := tuck (show ∀ i (h : i < l.length), DefOk l i h from fun i h => hall i h (by omega))
      clear hb hall
      go_wp2
      exact HT.out HALL.out _ HB.out

end Go.Proofs.YteeafpnjpcgfaaaGreat
