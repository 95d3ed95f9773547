/-
  SFree, Tk.
-/
import Derived.Test.YtpddjebdncaceaaGreatR05
import Derived.Test.YtpddjebdncaceaaGreatR07
import Derived.Test.YtpddjebdncaceaaGreatR12
import Derived.Deep.RegionHeld3
import Derived.IntWalk
namespace Go.Proofs.YtpddjebdncaceaaGreat
open Go.RowKit
theorem valid_bounds {t : Tm} (h : t.Valid) : sizes t.kids ≤ 399 ∧ hgts t.kids ≤ 29 := by
 have h1 := h.2.1
 have h2 := h.2.2
 rw [Tm.hgt_eq] at h1
 rw [Tm.size_eq] at h2
 omega
end Go.Proofs.YtpddjebdncaceaaGreat
namespace Go.Proofs.YtpddjebdncaceaaGreat
open Go
section
variable {P : Program} {ops : Array Oper} {Q : Exit → Act → World → Prop} {md : Region.Mode} {S1 S2 : World → Prop} {m : Nat}
theorem AnyTwo.tk (hT : ∀ w, S1 w → S2 w) {i : Nat} {oi : Oper} {v : Value} {fuel : Nat} {L : Array Bool} {a : Act} {w : World} (hi : ops[i]? = some oi) (hS : ph S1 S2 m L w)
  (h : AnyTwo P md ops Q S1 S2 m fuel (L.setIfInBounds i true) (a.put oi.dst v) w)
  (hs : Region.noSelect ops = true := by kernel_rfl) (hf : Region.free md ops L i = true := by kernel_rfl) (hr : (Region.ready md ops L).contains i = true := by decide +kernel)
  (him : (i == m) = false := by rfl) (hQ : ∀ c a w, Q (.panic c) (a.put oi.dst v) w → Q (.panic c) a w := by exact fun _ _ _ h => h)
  (hy : YieldsIf P ops S2 oi v a := by (refine Or.inl ⟨by rfl, ?_⟩; intro w hSw; (try dsimp only at hSw); go_simp; try (with_reducible rfl))) : AnyTwo P md ops Q S1 S2 m (fuel + 1) L a w := AnyTwo.takeAny hT hi hs hf hr him hQ hy hS h
end
theorem pts : (∀ (a : Act) (i : Nat) (v : Value), a.put (some i) v = { a with tmps := a.tmps.setIfInBounds i v }) ∧ (∀ (a : Act) (v : Value), a.put none v = a) ∧ (∀ {α : Type} (l : List α) (i : Nat) (a : α), l.toArray.setIfInBounds i a = (l.set i a).toArray) ∧ (∀ {α : Type} (x : α) (l : List α) (a : α), (x :: l).set 0 a = a :: l) ∧ ∀ {α : Type} (x : α) (l : List α) (n : Nat) (a : α), (x :: l).set (n + 1) a = x :: l.set n a :=
 ⟨fun _ _ _ => rfl, fun _ _ => rfl, List.setIfInBounds_toArray, fun _ _ _ => rfl, fun _ _ _ _ => rfl⟩
end Go.Proofs.YtpddjebdncaceaaGreat
