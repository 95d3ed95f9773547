/-
  VarsB.
-/
import Derived.Test.YtkjfdhdmkaofeaaB33
import Derived.Test.YtkjfdhdmkaofeaaB49
import Derived.Test.YtkjfdhdmkaofeaaB52
import Derived.Test.YtkjfdhdmkaofeaaB53
namespace Go.Proofs.Ytkjfdhdmkaofeaa
open Go.RowKit
def fnOf (t : Tm) : Tm := down 0 (runs 5 0 30 t) t
def argsOf (t : Tm) : List Tm := (sides 0 1 (runs 5 0 30 t) t).reverse
def SplPost (w : World) (G : Tm) (A : List Tm) (b : Bool) (e : Ending) (w' : World) : Prop := Below w.heap.size w w' ∧ ∃ (a1 : Option Addr) (c1 : Nat) (a0 : Option Addr) (c0 : Nat), e = .returned (.tuple #[.agg #[.int .i64 G.kind, .int .i64 G.num, .slice a1 G.kids.length c1], .slice a0 A.length c0, .bool b]) ∧ SlIn w' 0 G.kids (.slice a1 G.kids.length c1) ∧ SlIn w' 0 A (.slice a0 A.length c0)
theorem TlPost2.weak {w w' : World} {P : Prop} {l : List Tm} {T : Tm} {e : Ending} (h : TlPost2 w P l T e w') : SplPost w (orZero P T) (orNil P l) (tr P) e w' := by
 obtain ⟨hb, a1, c1, a0, c0, F1, F0, he, h1, h0, -, -⟩ := h
 exact ⟨hb, a1, c1, a0, c0, he, h1.sl fun _ _ => Nat.zero_le _, h0.sl fun _ _ => Nat.zero_le _⟩
theorem TlPost2S.weak {w w' : World} {P : Prop} {l : List Tm} {T : Tm} {e : Ending} (h : TlPost2S w P l T e w') : SplPost w (orZero P T) (orNil P l) (tr P) e w' := by
 obtain ⟨hb, a1, c1, a0, c0, he, h1, h0⟩ := h
 exact ⟨hb, a1, c1, a0, c0, he, h1.mono (Nat.zero_le _), h0.mono (Nat.zero_le _)⟩
theorem splitI_p (T : Tm) (w : World) (v : Value) (h : TmIn w 0 T v) : Calls Try.prog 10 #[v] w (SplPost w (orZero T.Valid (fnOf T)) (orNil T.Valid (argsOf T)) (tr T.Valid)) := (splitAppI_any T w v h).mono fun _ _ h => h.weak
theorem splitS_p (T : Tm) (w : World) (v : Value) (h : TmIn w 0 T v) : Calls Try.prog 13 #[v] w (SplPost w (orZero T.Valid (fnOf T)) (orNil T.Valid (argsOf T)) (tr T.Valid)) := (splitAppS_any T w v h).mono fun _ _ h => h.weak
theorem orNil_yes {P : Prop} {l : List Tm} (h : P) : orNil P l = l := by unfold orNil; rw [if_pos h]
theorem orNil_no {P : Prop} {l : List Tm} (h : ¬ P) : orNil P l = [] := by unfold orNil; rw [if_neg h]
theorem node_eta {t : Tm} (hv : t.Valid) (h : t.kind = 5) : node2 5 (kidT t 0) (kidT t 1) = t := by
 have h2 := kid2_len hv h (by decide)
 have h3 := hv.root.2
 rw [h] at h3
 have e5 : mostN 5 = 0 := by decide
 have h4 : t.num = 0 := by omega
 rw [kidT_eq (by omega), kidT_eq (by omega)]
 obtain ⟨k, n, l⟩ := t
 simp only [Tm.kind, Tm.num, Tm.kids] at h h2 h4 ⊢
 match l, h2 with
 | [x, y], _ => subst h; subst h4; rfl
theorem apps_sides : ∀ (j : Nat) (t : Tm), t.Valid → (∀ i, i < j → (down 0 i t).kind = 5) → apps 5 (sides 0 1 j t).reverse (down 0 j t) = t
 | 0, t, _, _ => rfl
 | j + 1, t, hv, hk => by
  have h0 : t.kind = 5 := hk 0 (by omega)
  have h2 := kid2_len hv h0 (by decide)
  rw [sides, down, List.reverse_cons, apps_snoc, apps_sides j (kidT t 0) (hv.kidT (by omega)) (fun i hi => hk (i + 1) (by omega))]
  exact node_eta hv h0
theorem app_again {t : Tm} (hv : t.Valid) : apps 5 (argsOf t) (fnOf t) = t := apps_sides _ t hv fun i hi => runs_kind 5 0 30 t i hi
theorem fn_kind {t : Tm} (hv : t.Valid) : (fnOf t).kind ≠ 5 := by
 rcases runs_end 5 0 30 t with h | h
 ·have := runs_lt (k := 5) (o := 0) (by decide) (by decide) 30 t hv; omega
 ·exact h
theorem app_valid {t : Tm} (hv : t.Valid) : (∀ x ∈ argsOf t, x.Valid) ∧ (fnOf t).Valid ∧ (argsOf t).length ≤ 29 := app_facts hv
theorem fn_node {f a : Tm} (hv : (node2 5 f a).Valid) : fnOf (node2 5 f a) = fnOf f ∧ argsOf (node2 5 f a) = argsOf f ++ [a] := by
 have hf := (node2_sub hv).1
 have hr : runs 5 0 30 (node2 5 f a) = runs 5 0 30 f + 1 := by
  refine runs_of 5 0 30 _ _ ?_ (fun i hi => ?_) ?_
  ·have := runs_lt (k := 5) (o := 0) (by decide) (by decide) 30 f hf; omega
  ·cases i with
   | zero => rfl
   | succ i => exact runs_kind 5 0 30 f i (by omega)
  ·rcases runs_end 5 0 30 f with h | h
   ·have := runs_lt (k := 5) (o := 0) (by decide) (by decide) 30 f hf; omega
   ·exact Or.inr h
 unfold fnOf argsOf
 rw [hr]
 exact ⟨rfl, by rw [sides, List.reverse_cons]; rfl⟩
theorem fn_apps : ∀ (l : List Tm) (f : Tm), (apps 5 l f).Valid → fnOf (apps 5 l f) = fnOf f ∧ argsOf (apps 5 l f) = argsOf f ++ l
 | [], f, _ => ⟨rfl, by simp [apps]⟩
 | a :: l, f, h => by
  have h1 := fn_apps l (node2 5 f a) h
  have h2 := fn_node (apps_sub (l := l) (f := node2 5 f a) h).1
  rw [apps_cons]
  exact ⟨h1.1.trans h2.1, by rw [h1.2, h2.2]; simp⟩
end Go.Proofs.Ytkjfdhdmkaofeaa
