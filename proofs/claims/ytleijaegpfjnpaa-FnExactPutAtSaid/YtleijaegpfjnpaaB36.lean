/-
  Node.
-/
import Derived.Test.YtleijaegpfjnpaaB11
import Derived.Test.YtleijaegpfjnpaaB16
import Derived.OwnWalk
namespace Go.Proofs.Ytleijaegpfjnpaa
open Go.RowKit
theorem cellsL_one {r : List (Tm × Value)} {w : World} {B : Nat} (h : ∀ x ∈ r, SlIn w B x.1.kids x.2) : ∀ u ∈ cellsL r, u.oneCell' = true := by
 induction r with
 | nil => intro u hu; simp [cellsL] at hu
 | cons x r ih =>
  obtain ⟨t, s⟩ := x
  intro u hu
  simp only [cellsL, List.mem_cons] at hu
  rcases hu with rfl | rfl | rfl | hu
  ·rfl
  ·rfl
  ·obtain ⟨a, cap, e⟩ := (h _ (List.mem_cons_self ..)).form
   rw [show (u : Value) = .slice a t.kids.length cap from e]; rfl
  ·exact ih (fun x hx => h x (List.mem_cons_of_mem _ hx)) u hu
end Go.Proofs.Ytleijaegpfjnpaa
