/-
  DfX.
-/
import Derived.Test.YtpddjebdncaceaaGreatB43
namespace Go.Proofs.YtpddjebdncaceaaGreat
open Go.RowKit
set_option linter.unusedVariables false
set_option linter.unusedSimpArgs false
structure OwnD (lo hi : Nat) (l : List (Tm × Tm)) (v : Value) (F : List Nat) (w : World) : Prop where
 own : DfOwn w l v F
 nd : F.Nodup
 ge : ∀ g ∈ F, lo ≤ g
 lt : ∀ g ∈ F, g < hi
 hi : hi ≤ w.heap.size
theorem OwnD.below {lo hi : Nat} {l : List (Tm × Tm)} {v : Value} {F : List Nat} {a b : World} (h : OwnD lo hi l v F a) (hb : Below a.heap.size a b) : OwnD lo hi l v F b :=
 ⟨h.own.keep fun g hg => SameAt.of_block (hb.block g (Nat.lt_of_lt_of_le (h.lt g hg) h.hi)), h.nd, h.ge, h.lt, Nat.le_trans h.hi hb.size⟩
theorem OwnD.sl {lo hi : Nat} {l : List (Tm × Tm)} {v : Value} {F : List Nat} {w : World} (h : OwnD lo hi l v F w) : DfIn w 0 l v := h.own.df (fun _ _ => Nat.zero_le _) fun g hg => Nat.lt_of_lt_of_le (h.lt g hg) h.hi
theorem OwnD.of {w0 w : World} {l : List (Tm × Tm)} {v : Value} {F : List Nat} (hs : DfOwn w l v F) (hn : F.Nodup) (hF : ∀ g ∈ F, w0.heap.size ≤ g ∧ g < w.heap.size) : OwnD w0.heap.size w.heap.size l v F w :=
 ⟨hs, hn, fun g hg => (hF g hg).1, fun g hg => (hF g hg).2, Nat.le_refl _⟩
theorem markDefS_but (l : List (Tm × Tm)) (F : List Nat) (k : Int) (w : World) (v : Value) (hk0 : 0 ≤ k) (hk1 : k + 2 * sizes (flat l) ≤ 4611686018427387904) (hnd : F.Nodup) (hown : DfOwn w l v F) :
  Calls Tryz.prog 15 #[v, .int .i64 k] w fun e w' => e = .returned (.int .i64 (k + 2 * sizes (flat l))) ∧ True ∧ But F w w' :=
 (markDefS_any l F k w v hk0 hk1 hnd hown).mono fun _ _ h => ⟨h.1, trivial, h.2⟩
end Go.Proofs.YtpddjebdncaceaaGreat
