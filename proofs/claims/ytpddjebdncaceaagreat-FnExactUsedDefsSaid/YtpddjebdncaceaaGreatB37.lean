/-
  DuE.
-/
import Derived.Test.YtpddjebdncaceaaGreatB36
namespace Go.Proofs.YtpddjebdncaceaaGreat
open Go.RowKit
set_option linter.unusedVariables false
set_option linter.unusedSimpArgs false
theorem OwnN.set {base n g cap : Nat} {N : Int → Int} {w : World} (h : OwnN base n N (.slice (some ⟨g, 0, none⟩) n cap) w) {i : Nat} (hi : i < n) (x : Int) : OwnN base n (fun k => if k = (i : Int) then x else N k) (.slice (some ⟨g, 0, none⟩) n cap) (w.setCell ⟨g, i, none⟩ (.int .i64 x)) := by
 rcases h.2 with ⟨e, -⟩ | ⟨g', cap', cur, he, r1, r2, r3, r4, r5, r6⟩
 ·simp at e
 ·simp only [Value.slice.injEq, true_and, Option.some.injEq, Addr.mk.injEq, and_true] at he
  obtain ⟨rfl, rfl⟩ := he
  refine ⟨by simp, .inr ⟨g, cap, _, rfl, r1, block_set r2 i (.int .i64 x), r3, r4, by simpa using r5, ?_⟩⟩
  rw [Array.toList_setIfInBounds, List.take_set, r6]
  refine List.ext_getElem (by simp) fun j h1 h2 => ?_
  rw [List.getElem_set]
  simp only [List.getElem_map, List.getElem_range]
  by_cases e : i = j
  ·subst e; simp
  ·rw [if_neg e, if_neg (by omega)]
theorem OwnN.congr {base n : Nat} {N N' : Int → Int} {v : Value} {w : World} (h : OwnN base n N v w) (hN : ∀ j : Nat, j < n → N' j = N j) : OwnN base n N' v w := by
 unfold OwnN at h ⊢
 rwa [show ((List.range n).map fun j : Nat => Value.int .i64 (N' j)) = (List.range n).map fun j : Nat => Value.int .i64 (N j) from List.map_congr_left fun j hj => by rw [hN j (by simpa using hj)]]
theorem OwnN.cell {base n g cap : Nat} {N : Int → Int} {w : World} (h : OwnN base n N (.slice (some ⟨g, 0, none⟩) n cap) w) : (∀ i : Nat, i < n → w.cell? ⟨g, i, none⟩ = some (.int .i64 (N i))) ∧ (∀ i, w.frozen? ⟨g, i, none⟩ = false) ∧ g < w.heap.size := by
 have hrow : w.ownsRow base 3 1 (.slice (some ⟨g, 0, none⟩) n cap) n _ := h
 rcases h.2 with ⟨e, -⟩ | ⟨g', cap', cur, he, r1, r2, r3, r4, r5, r6⟩
 ·simp at e
 ·simp only [Value.slice.injEq, true_and, Option.some.injEq, Addr.mk.injEq, and_true] at he
  obtain ⟨rfl, rfl⟩ := he
  obtain ⟨b1, b2, b3⟩ := block_of_cells r2
  refine ⟨fun i hi => ?_, b3, b1⟩
  have := hrow.cells (g := g) rfl i (.int .i64 (N i)) (by simp [hi])
  have hadd : (⟨g, 0, none⟩ : Addr).add i = ⟨g, i, none⟩ := by unfold Addr.add; split <;> simp_all
  rwa [hadd] at this
def revN (n : Nat) (N : Int → Int) (k : Nat) : Int → Int := fun x => if x < (k : Int) ∨ (n : Int) - 1 - (k : Int) < x then N ((n : Int) - 1 - x) else N x
def RevPost (base n : Nat) (N : Int → Int) (v : Value) (w : World) (e : Ending) (w' : World) : Prop := e = .returned (.tuple #[]) ∧ (∃ g, base ≤ g ∧ Only g w w') ∧ OwnN base n (fun x => N ((n : Int) - 1 - x)) v w'
set_option maxRecDepth 100000 in
set_option maxHeartbeats 1600000 in
theorem reverse_any {base n : Nat} (N : Int → Int) (hn : n ≤ 8) (w : World) (v : Value) (h : OwnN base n N v w) : Calls Tryz.prog 74 #[v] w (RevPost base n N v w) := by
 obtain ⟨a, cap, rfl⟩ := h.form
 obtain ⟨g, hg, ha⟩ : ∃ g, base ≤ g ∧ (0 < n → a = some ⟨g, 0, none⟩) := by
  rcases h.2 with ⟨e, e2⟩ | ⟨g', cap', cur, he, r1, -⟩
  ·exact ⟨base, Nat.le_refl _, fun h => by omega⟩
  ·simp only [Value.slice.injEq, true_and] at he
   exact ⟨g', r1, fun _ => he.1⟩
 have HA := tuck ha
 have HO := tuck h
 have HP : Hid (∀ W, Only g w W → OwnN base n (fun x => N ((n : Int) - 1 - x)) (.slice a n cap) W → RevPost base n N (.slice a n cap) w (.returned (.tuple #[])) W) := tuck fun W h1 h2 => ⟨rfl, ⟨g, hg, h1⟩, h2⟩
 generalize RevPost base n N (.slice a n cap) w = post at *
 clear ha h
 have hwn : IntKind.i64.wrap ((n : Int) - 1) = (n : Int) - 1 := IntWalk.i64_in _ (by omega)
 go_enter Tryz.func74, Tryz.ntmps74
 go_wp2_with fail
 go_loopw [2, 3] (fun iv jv wr => ∃ k : Nat, 2 * k ≤ n + 1 ∧ iv = .int .i64 (k : Int) ∧ jv = .int .i64 ((n : Int) - 1 - (k : Int)) ∧ Only g w wr ∧ OwnN base n (revN n N k) (.slice a n cap) wr) (fun iv jv _ => (intOf jv - intOf iv + 2).toNat)
 case atStart =>
  exact ⟨0, by omega, rfl, by first | rfl | (congr 1; omega) | (simp [hwn]), Only.refl _ _, HO.out.congr fun j hj => by unfold revN; rw [if_neg (by omega)]⟩
 case round =>
  obtain ⟨k, hk, rfl, rfl, ho, hr⟩ := hrel
  by_cases hlt : (k : Int) < (n : Int) - 1 - (k : Int)
  ·obtain rfl := HA.out (by omega)
   have HO2 := tuck ho
   have HR := tuck hr
   obtain ⟨j, hj⟩ : ∃ j : Nat, (n : Int) - 1 - (k : Int) = (j : Int) := ⟨n - 1 - k, by omega⟩
   have hjn : (j : Int) < (n : Int) := by omega
   have hkn : (k : Int) < (n : Int) := by omega
   have hj0 : (0 : Int) ≤ (j : Int) := by omega
   have hk0 : (0 : Int) ≤ (k : Int) := by omega
   obtain ⟨hc, hf, hz⟩ := hr.cell
   have ck := hc k (by omega)
   have cj := hc j (by omega)
   have fk := hf k
   have fj := hf j
   have hne : ¬ (k : Nat) = j := by omega
   have hne2 : ¬ j = (k : Nat) := by omega
   have hw1 : IntKind.i64.wrap ((k : Int) + 1) = (k : Int) + 1 := IntWalk.i64_in _ (by omega)
   have hw2 : IntKind.i64.wrap ((j : Int) - 1) = (j : Int) - 1 := IntWalk.i64_in _ (by omega)
   have HN1 := tuck (show revN n N k (k : Int) = N k from by unfold revN; rw [if_neg (by omega)])
   have HN2 := tuck (show revN n N k (j : Int) = N j from by unfold revN; rw [if_neg (by omega)])
   rw [HN1.out] at ck
   rw [HN2.out] at cj
   rw [hj] at hlt ⊢
   have HJ := tuck hj
   have HNX : Hid (OwnN base n (revN n N (k + 1)) (.slice (some ⟨g, 0, none⟩) n cap) ((wr.setCell ⟨g, k, none⟩ (.int .i64 (N j))).setCell ⟨g, j, none⟩ (.int .i64 (N k)))) := tuck ((((hr.set (i := k) (by omega) (N j)).set (i := j) (by omega) (N k))).congr fun x hx => by
    unfold revN
    by_cases e1 : (x : Int) = j
    ·rw [if_pos e1, if_pos (by omega), show (n : Int) - 1 - x = k by omega]
    ·rw [if_neg e1]
     by_cases e2 : (x : Int) = k
     ·rw [if_pos e2, if_pos (by omega), show (n : Int) - 1 - x = j by omega]
     ·rw [if_neg e2]
      by_cases e3 : (x : Int) < k ∨ (n : Int) - 1 - k < x
      ·rw [if_pos e3, if_pos (by omega)]
      ·rw [if_neg e3, if_neg (by omega)])
   have HOX := tuck ((ho.setCell (p := ⟨g, k, none⟩) (Or.inl rfl) (.int .i64 (N j))).setCell (p := ⟨g, j, none⟩) (Or.inl rfl) (.int .i64 (N k)))
   clear ho hr hc hf hj
   go_wp2_with fail
   go_region
   all_goals go_wp2_with fail
   all_goals go_roundw
   case rel => exact ⟨k + 1, by have := HJ.out; omega, by go_num, by have := HJ.out; first | (congr 1; push_cast; omega) | (rw [hw2]; congr 1; push_cast; omega), HOX.out.of_below (Below.refl _ _).drew, HNX.out.below (Below.refl _ _).drew⟩
   case measure => have := HJ.out; simp [intOf]; omega
  ·have HR := tuck (hr.congr (N' := fun x => N ((n : Int) - 1 - x)) fun j hj => by
    unfold revN
    by_cases e : (j : Int) < k ∨ (n : Int) - 1 - k < j
    ·rw [if_pos e]
    ·rw [if_neg e, show (n : Int) - 1 - j = j by omega])
   have HO2 := tuck ho
   clear ho hr
   go_wp2_with fail
   first
    | exact HP.out _ HO2.out HR.out
    | (go_end0; exact HP.out _ HO2.out HR.out)
end Go.Proofs.YtpddjebdncaceaaGreat
