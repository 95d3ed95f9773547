/-
  impl.environmentOf, impl.DefsValid.
-/
import Derived.Test.YteeafpnjpcgfaaaGreatDfF
namespace Go.Proofs.YteeafpnjpcgfaaaGreat
open Go.RowKit

/-- What environmentOf leaves. -/
def EnvPost (l : List (Tm × Tm)) (w : World) (e : Ending) (w' : World) : Prop := Below w.heap.size w w' ∧ ∃ p, e = .returned (.tuple #[.pointer p, .bool (tr (DefsOk l))]) ∧ (DefsOk l → EnvN l.length (.pointer p) w')

set_option maxRecDepth 100000 in
set_option maxHeartbeats 1600000 in
theorem envOf_any (l : List (Tm × Tm)) (w : World) (v : Value) (hin : DfIn w 0 l v) : Calls Tryz.prog 82 #[v] w (EnvPost l w) := by
  obtain ⟨a, cap, b, o, rfl, hl, hp, hc⟩ := hin
  have HP := tuck hp
  have HC := tuck hc
  unfold maxLen at hl
  clear hp hc
  have HF : Hid (¬ DefsOk l → ∀ W, Below w.heap.size w W → EnvPost l w (.returned (.tuple #[.pointer none, .bool false])) W) := tuck fun h W hb => ⟨hb, none, by rw [tr_not h], fun h2 => absurd h2 h⟩
  have HT : Hid (DefsOk l → ∀ W p, Below w.heap.size w W → EnvN l.length (.pointer p) W → EnvPost l w (.returned (.tuple #[.pointer p, .bool true])) W) := tuck fun h W p hb he => ⟨hb, p, by rw [tr_of h], fun _ => he⟩
  generalize EnvPost l w = post at *
  go_enter Tryz.func82, Tryz.ntmps82
  go_wp2
  go_loopw [4, 11] (fun ev i wr => ∃ (q : Nat) (p : Option Addr), q ≤ l.length ∧ q ≤ 8 ∧ i = .int .i64 q ∧ ev = .pointer p ∧ EnvN q (.pointer p) wr ∧ Below w.heap.size w wr ∧ ∀ i (h : i < l.length), i < q → DefOk l i h) (fun _ i _ => l.length - (intOf i).toNat)
  case atStart => exact ⟨0, none, Nat.zero_le _, Nat.zero_le _, rfl, rfl, Or.inl ⟨rfl, rfl⟩, Below.refl _ _, fun i _ h => absurd h (Nat.not_lt_zero _)⟩
  case round =>
    obtain ⟨q, p, hq, hq8, rfl, rfl, he, hb, hall⟩ := hrel
    by_cases hlt : q < l.length
    · have hlti : ((q : Int) < (l.length : Int)) := by omega
      have hqi : (0 : Int) ≤ (q : Int) := by omega
      obtain ⟨rfl, -, hbw⟩ := HP.out (by omega)
      obtain ⟨s, u, c0, c1, c2, c3, c4, c5, hs, hu⟩ := HC.out q hlt
      obtain ⟨sa, sc, rfl⟩ := hs.form
      obtain ⟨ua, uc, rfl⟩ := hu.form
      have hcc : ∀ j, wr.cell? ⟨b, j, none⟩ = w.cell? ⟨b, j, none⟩ := fun j => hb.cell (p := ⟨b, j, none⟩) hbw
      rw [← hcc] at c0 c1 c2 c3 c4 c5
      have HB := tuck hb
      have HALL := tuck hall
      have HCL : Hid (∀ W, Below wr.heap.size wr W → Calls Tryz.prog 100 #[.pointer p, .agg #[.int .i64 l[q].1.kind, .int .i64 l[q].1.num, .slice sa l[q].1.kids.length sc, .int .i64 l[q].2.kind, .int .i64 l[q].2.num, .slice ua l[q].2.kids.length uc]] W (WithPost q (decide (q ≠ 8) && decide (0 ≤ maxFreeOf l[q].1 ∧ maxFreeOf l[q].1 ≤ q) && decide (0 ≤ maxFreeOf l[q].2 ∧ maxFreeOf l[q].2 ≤ q)) W)) := tuck fun W hW => envWith_any _ _ q hq8 W _ _ _ (he.below hW) ((hs.below hb).below hW) ((hu.below hb).below hW)
      have HOK : Hid (DefOk l q hlt ↔ (0 ≤ maxFreeOf l[q].1 ∧ maxFreeOf l[q].1 ≤ q) ∧ 0 ≤ maxFreeOf l[q].2 ∧ maxFreeOf l[q].2 ≤ q) := tuck Iff.rfl
      clear hb hall hs hu hcc he
      generalize l[q] = x at *
      obtain ⟨x1, x2⟩ := x
      simp only at HCL HOK c0 c1 c2 c3 c4 c5
      obtain ⟨ok, hok⟩ : ∃ ok, ok = (decide (q ≠ 8) && decide (0 ≤ maxFreeOf x1 ∧ maxFreeOf x1 ≤ q) && decide (0 ≤ maxFreeOf x2 ∧ maxFreeOf x2 ≤ q)) := ⟨_, rfl⟩
      rw [← hok] at HCL
      have HOK2 := tuck hok
      clear hok
      have HBX := tuck (below1 wr (.cells #[.int .i64 x1.kind, .int .i64 x1.num, .slice sa x1.kids.length sc, .int .i64 x2.kind, .int .i64 x2.num, .slice ua x2.kids.length uc] 81))
      go_wp2_with fail
      refine (HCL.out _ HBX.out).mono ?_
      rintro e w1 ⟨hb1, p2, rfl, he2⟩
      have HE2 := tuck he2
      have HB2 := tuck (bAfter (bAfter HB.out HBX.out) hb1)
      clear hb1 he2 c0 c1 c2 c3 c4 c5 HCL HBX
      cases ok with
      | false =>
        have HNO := tuck (show ¬ DefsOk l from fun h => by
          have h1 := HOK.out.1 (h.2 q hlt)
          have h2 := h.1
          have h3 := HOK2.out
          rw [decide_eq_true (show q ≠ 8 by omega), decide_eq_true h1.1, decide_eq_true h1.2] at h3
          cases h3)
        go_wp2_with fail
        exact HF.out HNO.out _ HB2.out
      | true =>
        have HYES := tuck (show q ≠ 8 ∧ DefOk l q hlt from by
          have h3 := HOK2.out
          have h4 := h3.symm
          simp only [Bool.and_eq_true, decide_eq_true_eq] at h4
          exact ⟨h4.1.1, HOK.out.2 ⟨h4.1.2, h4.2⟩⟩)
        go_wp2_with fail
        go_roundw
        case rel => exact ⟨q + 1, p2, by omega, by have := HYES.out.1; omega, by go_num, rfl, HE2.out (by trivial), HB2.out, fun i h hi => by
          by_cases e : i = q
          · subst e; exact HYES.out.2
          · exact HALL.out i h (by omega)⟩
        case measure => simp [intOf]; omega
    · have hge2 : ¬ ((q : Int) < (l.length : Int)) := by omega
      have e : q = l.length := by omega
      have HB := tuck hb
      have HALL := tuck (show DefsOk l from ⟨by omega, fun i h => hall i h (by omega)⟩)
      have HE := tuck (e ▸ he)
      clear hb hall he
      go_wp2
      exact HT.out HALL.out _ _ HB.out HE.out

set_option maxRecDepth 100000 in
theorem defsValidI_any (l : List (Tm × Tm)) (w : World) (v : Value) (hin : DfIn w 0 l v) : Calls Tryz.prog 49 #[v] w (BoolPost w (tr (DefsOk l))) := by
  have HE := tuck (envOf_any l w v hin)
  obtain ⟨a, cap, rfl⟩ := hin.form
  have HP : Hid (∀ W, Below w.heap.size w W → BoolPost w (tr (DefsOk l)) (.returned (.bool (tr (DefsOk l)))) W) := tuck fun W hb => ⟨rfl, hb⟩
  unfold EnvPost at HE
  generalize BoolPost w (tr (DefsOk l)) = post at *
  generalize tr (DefsOk l) = ok at *
  clear hin
  go_enter Tryz.func49, Tryz.ntmps49
  go_wp2_with fail
  refine HE.out.mono ?_
  rintro e w1 ⟨hb, p, rfl, -⟩
  have HB := tuck hb
  clear hb
  go_wp2_with fail
  exact HP.out _ HB.out

end Go.Proofs.YteeafpnjpcgfaaaGreat
