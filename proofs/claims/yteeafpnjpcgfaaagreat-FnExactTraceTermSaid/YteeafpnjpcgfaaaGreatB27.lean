/-
  FindP.
-/
import Derived.Test.YteeafpnjpcgfaaaGreatB26
namespace Go.Proofs.YteeafpnjpcgfaaaGreat
def kidT (t : Tm) (i : Nat) : Tm := t.kids.getD i zeroT
def Tm.contr (t : Tm) : Tm :=
 if t.redex = 1 then (kidT (kidT t 0) 1).subst (kidT t 1) 0 0 else if t.redex = 2 then kidT t 1
 else if t.redex = 3 then .mk 5 0 [.mk 5 0 [kidT t 2, kidT (kidT t 3) 0], .mk 9 0 [kidT t 0, kidT t 1, kidT t 2, kidT (kidT t 3) 0]]
 else if t.redex = 4 then kidT t 2 else if t.redex = 5 then kidT (kidT t 0) 1 else kidT (kidT t 0) 2
section
variable (rl mo : Bool)
mutual
def Tm.find : Tm → Option (List (Tm × Nat) × Tm)
 | .mk k n l =>
  if (Tm.mk k n l).redex ≠ 0 ∧ rl = false then some ([], .mk k n l) else
  match findL (.mk k n l) l 0 with
  | some x => some x
  | none => if (Tm.mk k n l).redex ≠ 0 then some ([], .mk k n l) else none
def findL (t0 : Tm) : List Tm → Nat → Option (List (Tm × Nat) × Tm)
 | [], _ => none
 | t :: l, i =>
  match (if mo = true ∧ mainIx t0.kind ≠ (i : Int) then none else t.find) with
  | some (p, r) => some ((t0, i) :: p, r)
  | none => findL t0 l (i + 1)
end
mutual
def Tm.step : Tm → Option Tm
 | .mk k n l =>
  if (Tm.mk k n l).redex ≠ 0 ∧ rl = false then some (Tm.mk k n l).contr else
  match stepL k l 0 with
  | some l' => some (.mk k n l')
  | none => if (Tm.mk k n l).redex ≠ 0 then some (Tm.mk k n l).contr else none
def stepL (k : Int) : List Tm → Nat → Option (List Tm)
 | [], _ => none
 | t :: l, i =>
  match (if mo = true ∧ mainIx k ≠ (i : Int) then none else t.step) with
  | some t' => some (t' :: l)
  | none => (stepL k l (i + 1)).map (t :: ·)
end
end
def around : List (Tm × Nat) → Tm → Tm
 | [], x => x
 | (t, i) :: p, x => .mk t.kind t.num (t.kids.set i (around p x))
section
variable {rl mo : Bool}
mutual
theorem Tm.find_step : ∀ t : Tm, t.step rl mo = (t.find rl mo).map fun x => around x.1 x.2.contr
 | .mk k n l => by
  rw [Tm.step, Tm.find]
  by_cases h : (Tm.mk k n l).redex ≠ 0 ∧ rl = false
  ·rw [if_pos h, if_pos h]; rfl
  ·rw [if_neg h, if_neg h]
   have hl : Option.map (fun m => Tm.mk k n m) (stepL rl mo k l 0) = Option.map (fun x => around x.1 x.2.contr) (findL rl mo (.mk k n l) l 0) := findL_step (Tm.mk k n l) l [] rfl
   cases hf : findL rl mo (.mk k n l) l 0 with
   | none =>
    rw [hf] at hl
    have hs : stepL rl mo k l 0 = none := by
     cases e : stepL rl mo k l 0 with
     | none => rfl
     | some y => rw [e] at hl; simp at hl
    rw [hs]
    by_cases h2 : (Tm.mk k n l).redex ≠ 0
    ·simp only [if_pos h2]; rfl
    ·simp only [if_neg h2]; rfl
   | some x =>
    rw [hf] at hl
    cases e : stepL rl mo k l 0 with
    | none => rw [e] at hl; simp at hl
    | some y =>
     rw [e] at hl
     simpa using hl
theorem findL_step (t0 : Tm) : ∀ (l pre : List Tm), t0.kids = pre ++ l → (stepL rl mo t0.kind l pre.length).map (fun m => Tm.mk t0.kind t0.num (pre ++ m)) = (findL rl mo t0 l pre.length).map fun x => around x.1 x.2.contr
 | [], pre, _ => by rw [stepL, findL]; rfl
 | t :: l, pre, h => by
  have ih := findL_step t0 l (pre ++ [t]) (by rw [h, List.append_assoc]; rfl)
  rw [List.length_append, List.length_singleton] at ih
  rw [stepL, findL]
  by_cases hm : mo = true ∧ mainIx t0.kind ≠ (pre.length : Int)
  ·rw [if_pos hm, if_pos hm]
   show Option.map _ (Option.map _ _) = Option.map _ (findL rl mo t0 l (pre.length + 1))
   rw [← ih, Option.map_map]
   congr 1
   funext m
   simp
  ·rw [if_neg hm, if_neg hm, Tm.find_step t]
   cases hf : t.find rl mo with
   | none =>
    show Option.map _ (Option.map _ _) = Option.map _ (findL rl mo t0 l (pre.length + 1))
    rw [← ih, Option.map_map]
    congr 1
    funext m
    simp
   | some x =>
    obtain ⟨p, r⟩ := x
    show some (Tm.mk t0.kind t0.num (pre ++ around p r.contr :: l)) = some (around ((t0, pre.length) :: p) r.contr)
    rw [around, h, List.set_append_right _ _ (Nat.le_refl _), Nat.sub_self]
    rfl
end
end
end Go.Proofs.YteeafpnjpcgfaaaGreat
