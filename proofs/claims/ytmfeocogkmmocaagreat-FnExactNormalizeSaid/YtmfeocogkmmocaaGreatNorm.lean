/-
  NormalTerm: no redex in a term ('Tm.nf'); the model's walk; the program's.
-/
import Derived.Test.YtmfeocogkmmocaaGreatFind
import Derived.Test.YtmfeocogkmmocaaGreatSpecV
import Derived.Test.YtmfeocogkmmocaaGreatImplB
namespace Go.Proofs.YtmfeocogkmmocaaGreat
open Go.RowKit

mutual
/-- There is no redex. -/
def Tm.nf : Tm → Bool
  | .mk k n l => nfL l && ((Tm.mk k n l).redex == 0)
def nfL : List Tm → Bool
  | [] => true
  | t :: l => t.nf && nfL l
end
mutual
theorem Tm.find_nf : ∀ t : Tm, (t.find false false).isNone = t.nf
  | .mk k n l => by
    rw [Tm.find, Tm.nf]
    have h := findL_nf (.mk k n l) l 0
    by_cases hr : (Tm.mk k n l).redex = 0
    · rw [if_neg (by simp [hr]), ← h]
      cases findL false false (.mk k n l) l 0 <;> simp [hr]
    · rw [if_pos ⟨hr, rfl⟩]
      simp [hr]
theorem findL_nf (t0 : Tm) : ∀ (l : List Tm) (i : Nat), (findL false false t0 l i).isNone = nfL l
  | [], _ => by rw [findL, nfL]; rfl
  | t :: l, i => by
    rw [findL, nfL, ← Tm.find_nf t, ← findL_nf t0 l (i + 1), if_neg (by simp)]
    cases t.find false false <;> rfl
end
noncomputable def normalOf (t : Tm) : Bool := tr (t.Valid ∧ t.nf = true)

set_option maxRecDepth 100000 in
theorem outside_any (w : World) : Calls Tryz.prog 23 #[] w fun e w' => e = .returned (.agg #[.bool false, .bool false]) ∧ Below w.heap.size w w' := by
  go_enter Tryz.func23, Tryz.ntmps23
  go_wp2_with fail
  refine bodyPost_ret (v := .agg #[.bool false, .bool false]) (by simp [results, Tryz.results23, go_sem, *]) rfl ⟨rfl, ?_⟩
  exact below1 _ _

end Go.Proofs.YtmfeocogkmmocaaGreat
