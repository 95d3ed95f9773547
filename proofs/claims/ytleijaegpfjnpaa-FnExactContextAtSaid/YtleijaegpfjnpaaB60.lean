/-
  PlX.
-/
import Derived.Test.YtleijaegpfjnpaaB22
import Derived.Test.YtleijaegpfjnpaaB31
import Derived.Test.YtleijaegpfjnpaaB47
import Derived.Test.YtleijaegpfjnpaaB55
import Derived.Test.YtleijaegpfjnpaaB57
import Derived.Test.YtleijaegpfjnpaaB58
import Derived.ChangeAlike
import Derived.RegionTactic
namespace Go.Proofs.Ytleijaegpfjnpaa
theorem sizes_valid : ∀ {l : List Tm}, (∀ x ∈ l, x.Valid) → sizes l ≤ l.length * 400
 | [], _ => by simp [sizes]
 | x :: l, h => by
  have h1 := (h x (by simp)).2.2
  have h2 := sizes_valid (l := l) fun y hy => h y (by simp [hy])
  rw [sizes, List.length_cons]
  omega
theorem ctxOf_sizes (l : List Tm) (t : Tm) (N : Int → Int) (len : Nat) : sizes (orNil (CtxOk l t N len) (ctxOf l t N len)) ≤ 1000000 := by
 unfold orNil
 by_cases h : CtxOk l t N len
 ·rw [if_pos h]
  have h1 := sizes_valid (ctxOf_valid h.1 h.2.1)
  have h2 := ctxOf_length l t N len
  have h3 := h.2.2
  omega
 ·rw [if_neg h]; simp [sizes]
end Go.Proofs.Ytleijaegpfjnpaa
