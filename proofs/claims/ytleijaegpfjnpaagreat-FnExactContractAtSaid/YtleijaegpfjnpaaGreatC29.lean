/-
  FindP, Find, Node.
-/
import Derived.Test.YtleijaegpfjnpaaGreatC10
import Derived.Test.YtleijaegpfjnpaaGreatC16
import Derived.Test.YtleijaegpfjnpaaGreatC26
import Derived.Test.YtleijaegpfjnpaaGreatC27
import Derived.Test.YtleijaegpfjnpaaGreatC28
import Derived.OwnWalk
namespace Go.Proofs.YtleijaegpfjnpaaGreat
def kidT (t : Tm) (i : Nat) : Tm := t.kids.getD i zeroT
def Tm.contr (t : Tm) : Tm :=
 if t.redex = 1 then (kidT (kidT t 0) 1).subst (kidT t 1) 0 0 else if t.redex = 2 then kidT t 1
 else if t.redex = 3 then .mk 5 0 [.mk 5 0 [kidT t 2, kidT (kidT t 3) 0], .mk 9 0 [kidT t 0, kidT t 1, kidT t 2, kidT (kidT t 3) 0]]
 else if t.redex = 4 then kidT t 2 else if t.redex = 5 then kidT (kidT t 0) 1 else kidT (kidT t 0) 2
section
variable (rl mo : Bool)
end
def around : List (Tm × Nat) → Tm → Tm
 | [], x => x
 | (t, i) :: p, x => .mk t.kind t.num (t.kids.set i (around p x))
section
variable {rl mo : Bool}
end
end Go.Proofs.YtleijaegpfjnpaaGreat
namespace Go.Proofs.YtleijaegpfjnpaaGreat
open Go.RowKit
def Passed (u : World) : List (Tm × Nat) → List (Tm × Value × Nat) → Prop
 | [], [] => True
 | (t, i) :: p, (t', s, i') :: q => t' = t ∧ i' = i ∧ SlIn u 0 t.kids s ∧ Passed u p q
 | _, _ => False
end Go.Proofs.YtleijaegpfjnpaaGreat
namespace Go.Proofs.YtleijaegpfjnpaaGreat
open Go.RowKit
theorem cellsL_one {r : List (Tm × Value)} {w : World} {B : Nat} (h : ∀ x ∈ r, SlIn w B x.1.kids x.2) : ∀ u ∈ cellsL r, u.oneCell' = true := by
 induction r with
 | nil => intro u hu; simp [cellsL] at hu
 | cons x r ih =>
  obtain ⟨t, s⟩ := x
  intro u hu
  simp only [cellsL, List.mem_cons] at hu
  rcases hu with rfl | rfl | rfl | hu
  ·rfl
  ·rfl
  ·obtain ⟨a, cap, e⟩ := (h _ (List.mem_cons_self ..)).form
   rw [show (u : Value) = .slice a t.kids.length cap from e]; rfl
  ·exact ih (fun x hx => h x (List.mem_cons_of_mem _ hx)) u hu
end Go.Proofs.YtleijaegpfjnpaaGreat
