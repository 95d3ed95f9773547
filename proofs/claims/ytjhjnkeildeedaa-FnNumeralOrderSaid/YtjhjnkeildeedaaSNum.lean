/-
  The model's Numeral.
-/
import Derived.Test.YtjhjnkeildeedaaNumS
namespace Go.Proofs.Ytjhjnkeildeedaa
open Go.RowKit

/-- What the model's Numeral leaves. -/
def NumPostS (n : Int) (w : World) (e : Ending) (w' : World) : Prop := Below w.heap.size w w' ∧
  ∃ v, e = .returned (.tuple #[v, .bool (decide (0 ≤ n ∧ n ≤ 20))]) ∧ TmIn w' 0 (if 0 ≤ n ∧ n ≤ 20 then numT n.toNat else .mk 0 0 []) v

theorem numS_any (n : Int) (w : World) : Calls Try.prog 24 #[.int .i64 n] w (NumPostS n w) := by
  by_cases hn : 0 ≤ n ∧ n ≤ 20
  rotate_left
  · have HP : Hid (∀ w', Below w.heap.size w w' → NumPostS n w (.returned (.tuple #[.agg #[.int .i64 0, .int .i64 0, .slice none 0 0], .bool false])) w') := fun w' hb =>
      ⟨hb, _, by rw [show decide (0 ≤ n ∧ n ≤ 20) = false by simpa using hn], by rw [if_neg hn]; exact ⟨_, rfl, SlIn.nil _ _ _ _⟩⟩
    generalize NumPostS n w = post at *
    by_cases h0 : n < 0
    · have g0 : decide (n < 0) = true := by simpa using h0
      go_enter Try.func24, Try.ntmps24
      go_wp2
      refine bodyPost_ret (v := .tuple #[.agg #[.int .i64 0, .int .i64 0, .slice none 0 0], .bool false]) (by simp [results, Try.results24, go_sem]) rfl (HP.out _ ?_)
      exact below1 _ _
    · have g0 : decide (n < 0) = false := by simpa using h0
      have g1 : 20 < n := by omega
      go_enter Try.func24, Try.ntmps24
      go_wp2
      refine bodyPost_ret (v := .tuple #[.agg #[.int .i64 0, .int .i64 0, .slice none 0 0], .bool false]) (by simp [results, Try.results24, go_sem]) rfl (HP.out _ ?_)
      exact below1 _ _
  obtain ⟨m, rfl⟩ : ∃ m : Nat, n = m := ⟨n.toNat, by omega⟩
  have hm : m ≤ 20 := by omega
  have HP : Hid (∀ w' v, Below w.heap.size w w' → TmIn w' 0 (numT m) v → NumPostS m w (.returned (.tuple #[v, .bool true])) w') := fun w' v hb h1 =>
    ⟨hb, _, by rw [show decide ((0 : Int) ≤ m ∧ (m : Int) ≤ 20) = true by simpa using hn], by rw [if_pos hn, Int.toNat_natCast]; exact h1⟩
  generalize NumPostS (m : Int) w = post at *
  clear hn
  have hm1 : ¬ ((m : Int) < 0) := by omega
  have hm2 : ¬ (20 < (m : Int)) := by omega
  go_enter Try.func24, Try.ntmps24
  go_wp2_with (go_at_call 37; refine (lnum_any m (Nat.le_trans hm (by decide)) _).mono ?_; rintro e w1 ⟨v, rfl, ⟨s, rfl, hin⟩, hb⟩; obtain ⟨sa, sc, rfl⟩ := hin.form; rw [Int.toNat_natCast] at *; obtain ⟨oc, of⟩ := old_cells hb; have hz : w.heap.size < w1.heap.size := (by have := hb.size; simp at this; omega); have HB := tuck hb; have HIN := tuck hin; clear hb hin)
  have hb3 := bSet3 (bAfter (below1 _ _) HB.out) (Nat.le_refl w.heap.size) 0 1 2 (.int .i64 (numT m).kind) (.int .i64 (numT m).num) (.slice sa (numT m).kids.length sc)
  have hs3 : SlIn w1 (w.heap.size + 1) (numT m).kids (.slice sa (numT m).kids.length sc) := HIN.out.mono (by simp)
  refine bodyPost_ret (v := .tuple #[.agg #[.int .i64 (numT m).kind, .int .i64 (numT m).num, .slice sa (numT m).kids.length sc], .bool true]) (by simp [results, Try.results24, go_sem, *]) rfl (HP.out _ _ hb3 ⟨_, rfl, ?_⟩)
  exact (((hs3.setCell (p := ⟨w.heap.size, 0, none⟩) (Nat.lt_succ_self _) _).setCell (p := ⟨w.heap.size, 1, none⟩) (Nat.lt_succ_self _) _).setCell (p := ⟨w.heap.size, 2, none⟩) (Nat.lt_succ_self _) _).mono (Nat.zero_le _)

end Go.Proofs.Ytjhjnkeildeedaa
