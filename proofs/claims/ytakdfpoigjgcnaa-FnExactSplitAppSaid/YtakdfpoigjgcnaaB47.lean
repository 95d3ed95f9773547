/-
  TeleX.
-/
import Derived.Test.YtakdfpoigjgcnaaB37
import Derived.Test.YtakdfpoigjgcnaaB46
namespace Go.Proofs.Ytakdfpoigjgcnaa
theorem splitL_sizes (t : Tm) (n : Int) : sizes (orNil (SplitOk t n) (sides 1 0 n.toNat t)) ≤ 1000000 := orNil_sizes fun h => by
 have hv := sides_valid (k := 3) (o := 1) (p := 0) (by decide) (by decide) (by decide) n.toNat t h.2.2.1 (fun i hi => runs_kind 3 1 30 t i (by have := h.2.2.2; omega))
 have := sizes_le (n := 8) hv (by rw [sides_length]; have := h.2.1; omega)
 omega
theorem splitT_sizes (t : Tm) (n : Int) : sizes (orZero (SplitOk t n) (down 1 n.toNat t)).kids ≤ 1000000 := by
 have h : ∀ {P : Prop} {T : Tm}, (P → T.Valid) → sizes (orZero P T).kids ≤ 1000000 := fun {P T} h => by
  unfold orZero
  split
  ·rename_i hp
   have := (valid_bounds (h hp)).1
   omega
  ·simp [zeroT, Tm.kids, sizes]
 exact h fun h => (down_valid (k := 3) (by decide) (by decide) n.toNat t h.2.2.1 (fun i hi => runs_kind 3 1 30 t i (by have := h.2.2.2; omega))).1
theorem appL_sizes (t : Tm) : sizes (orNil t.Valid (sides 0 1 (runs 5 0 30 t) t).reverse) ≤ 1000000 := orNil_sizes fun h => by
 have hf := app_facts h
 have := sizes_le (n := 29) hf.1 hf.2.2
 omega
theorem appT_sizes (t : Tm) : sizes (orZero t.Valid (down 0 (runs 5 0 30 t) t)).kids ≤ 1000000 := by
 unfold orZero
 split
 ·rename_i hp
  have := (valid_bounds (app_facts hp).2.1).1
  omega
 ·simp [zeroT, Tm.kids, sizes]
end Go.Proofs.Ytakdfpoigjgcnaa
