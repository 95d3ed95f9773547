/-
  AnyTwo's moves with their plain conditions shown by themselves.
-/
import Derived.Test.YteeafpnjpcgfaaaGreatTwo
namespace Go.Proofs.YteeafpnjpcgfaaaGreat
open Go

section
variable {P : Program} {ops : Array Oper} {Q : Exit → Act → World → Prop} {md : Region.Mode} {S1 S2 : World → Prop} {m : Nat}

/-- takeAny, with the plain conditions shown by themselves. -/
theorem AnyTwo.tk (hT : ∀ w, S1 w → S2 w) {i : Nat} {oi : Oper} {v : Value} {fuel : Nat} {L : Array Bool} {a : Act} {w : World} (hi : ops[i]? = some oi) (hS : ph S1 S2 m L w)
    (h : AnyTwo P md ops Q S1 S2 m fuel (L.setIfInBounds i true) (a.put oi.dst v) w)
    (hs : Region.noSelect ops = true := by kernel_rfl) (hf : Region.free md ops L i = true := by kernel_rfl) (hr : (Region.ready md ops L).contains i = true := by decide +kernel)
    (him : (i == m) = false := by rfl) (hQ : ∀ c a w, Q (.panic c) (a.put oi.dst v) w → Q (.panic c) a w := by exact fun _ _ _ h => h)
    (hy : YieldsIf P ops S2 oi v a := by (refine Or.inl ⟨by rfl, ?_⟩; intro w hSw; (try dsimp only at hSw); go_simp; try (with_reducible rfl))) : AnyTwo P md ops Q S1 S2 m (fuel + 1) L a w := AnyTwo.takeAny hT hi hs hf hr him hQ hy hS h
/-- The same, skipped by its guard. -/
theorem AnyTwo.sk (hT : ∀ w, S1 w → S2 w) {i : Nat} {oi : Oper} {fuel : Nat} {L : Array Bool} {a : Act} {w : World} (hi : ops[i]? = some oi) (hS : ph S1 S2 m L w)
    (h : AnyTwo P md ops Q S1 S2 m fuel (L.setIfInBounds i true) (a.put oi.dst undef) w)
    (hs : Region.noSelect ops = true := by kernel_rfl) (hf : Region.free md ops L i = true := by kernel_rfl) (hr : (Region.ready md ops L).contains i = true := by decide +kernel)
    (him : (i == m) = false := by rfl) (hQ : ∀ c a w, Q (.panic c) (a.put oi.dst undef) w → Q (.panic c) a w := by exact fun _ _ _ h => h)
    (hy : YieldsIf P ops S2 oi undef a := by exact Or.inr ⟨by rfl, rfl⟩) : AnyTwo P md ops Q S1 S2 m (fuel + 1) L a w := AnyTwo.takeAny hT hi hs hf hr him hQ hy hS h
end

/-- What a slot's writing does, for 'simp only'. -/
theorem pts : (∀ (a : Act) (i : Nat) (v : Value), a.put (some i) v = { a with tmps := a.tmps.setIfInBounds i v }) ∧ (∀ (a : Act) (v : Value), a.put none v = a) ∧ (∀ {α : Type} (l : List α) (i : Nat) (a : α), l.toArray.setIfInBounds i a = (l.set i a).toArray) ∧ (∀ {α : Type} (x : α) (l : List α) (a : α), (x :: l).set 0 a = a :: l) ∧ ∀ {α : Type} (x : α) (l : List α) (n : Nat) (a : α), (x :: l).set (n + 1) a = x :: l.set n a :=
  ⟨fun _ _ _ => rfl, fun _ _ => rfl, List.setIfInBounds_toArray, fun _ _ _ => rfl, fun _ _ _ _ => rfl⟩

end Go.Proofs.YteeafpnjpcgfaaaGreat
