/-
  FunValue of one or two numbers that are written out.
-/
import Derived.Test.YtjhjnkeildeedaaNfB
import Derived.Test.YtjhjnkeildeedaaNfD
namespace Go.Proofs.Ytjhjnkeildeedaa
open Go.RowKit
set_option linter.unusedVariables false
set_option linter.unusedSimpArgs false

theorem lit1_any (f : Int) (a : Int) (w : World) (hf : nfA f = 1) (ha : 0 ≤ a ∧ a ≤ 20) : Calls Try.prog 16 #[.int .i64 f, .slice (some ⟨w.heap.size, 0, none⟩) 1 1] (w.alloc (.cells #[.int .i64 a] 3)) (fun e w' => Below (w.alloc (.cells #[.int .i64 a] 3)).heap.size (w.alloc (.cells #[.int .i64 a] 3)) w' ∧ e = .returned (.tuple #[.int .i64 (nfV f a a), .bool true])) := by
  have hi : Ints (w.alloc (.cells #[.int .i64 a] 3)) 0 (fun _ => a) 1 (.slice (some ⟨w.heap.size, 0, none⟩) 1 1) := by
    refine ⟨_, _, w.heap.size, 0, rfl, fun _ => ⟨rfl, Nat.zero_le _, by simp⟩, fun i hi => ?_⟩
    rw [Nat.zero_add, World.cell?_alloc_new]
    obtain rfl : i = 0 := by omega
    rfl
  have hok : NfOk f (fun _ => a) 1 := ⟨hf.symm, fun i hi => by exact ha⟩
  have h := valI_any f (fun _ => a) 1 _ _ (by omega) hi
  rw [tr_of hok, show nfR f (fun _ => a) 1 = nfV f a a from if_pos hok] at h
  exact h
theorem lit2_any (f : Int) (a b : Int) (w : World) (hf : nfA f = 2) (ha : 0 ≤ a ∧ a ≤ 20) (hb : 0 ≤ b ∧ b ≤ 20) : Calls Try.prog 16 #[.int .i64 f, .slice (some ⟨w.heap.size, 0, none⟩) 2 2] (w.alloc (.cells #[.int .i64 a, .int .i64 b] 3)) (fun e w' => Below (w.alloc (.cells #[.int .i64 a, .int .i64 b] 3)).heap.size (w.alloc (.cells #[.int .i64 a, .int .i64 b] 3)) w' ∧ e = .returned (.tuple #[.int .i64 (nfV f a b), .bool true])) := by
  have hi : Ints (w.alloc (.cells #[.int .i64 a, .int .i64 b] 3)) 0 (fun i => if i = 0 then a else b) 2 (.slice (some ⟨w.heap.size, 0, none⟩) 2 2) := by
    refine ⟨_, _, w.heap.size, 0, rfl, fun _ => ⟨rfl, Nat.zero_le _, by simp⟩, fun i hi => ?_⟩
    rw [Nat.zero_add, World.cell?_alloc_new]
    obtain rfl | rfl : i = 0 ∨ i = 1 := by omega
    all_goals rfl
  have hok : NfOk f (fun i => if i = 0 then a else b) 2 := ⟨hf.symm, fun i hi => by show 0 ≤ (if (i : Int) = 0 then a else b) ∧ (if (i : Int) = 0 then a else b) ≤ 20; split; exact ha; exact hb⟩
  have h := valI_any f (fun i => if i = 0 then a else b) 2 _ _ (by omega) hi
  rw [tr_of hok, show nfR f (fun i => if i = 0 then a else b) 2 = nfV f a b from if_pos hok] at h
  exact h

end Go.Proofs.Ytjhjnkeildeedaa
