/-
  CurR.
-/
import Derived.Test.YtjdmfegdgpbkgaaGreatO27
namespace Go.Proofs.YtjdmfegdgpbkgaaGreat
set_option linter.unusedVariables false
theorem dg_no {s : ByteArray} {a b : Nat} (h : byteAt s a = b) (hb : b < 48 ∨ 57 < b) : dg s a = false := by
 cases e : dg s a with
 | false => rfl
 | true => have := dg_iff.1 e; omega
def FullAt (s : ByteArray) (g : Nat → Option (Tm × Nat)) (f : Nat → Nat → Option (Tm × Nat × Nat)) : Prop :=
 ∀ a c x, g a = some x → x.1.allOk → c + x.1.size ≤ 400 → dg s x.2 = false → f a c = some (x.1, x.2, c + x.1.size)
theorem full_ends {s : ByteArray} {g : Nat → Option (Tm × Nat)} {f : Nat → Nat → Option (Tm × Nat × Nat)} (h : FullAt s g f) (last : Nat) (hl : 57 < last) : ∀ (m a c : Nat) (y : List Tm × Nat), ptSer s g last (m + 1) a = some y → allsOk y.1 → c + sizes y.1 ≤ 400 →
  ctEnds s f (List.replicate m 44 ++ [last]) a c = some (y.1, y.2, c + sizes y.1)
 | 0, a, c, y, hy, hok, hsz => by
  rw [ptSer] at hy
  cases hf : g a with
  | none => rw [hf] at hy; cases hy
  | some x =>
   rw [hf] at hy
   dsimp only at hy
   by_cases hb : x.2 < s.size ∧ byteAt s x.2 = (if 0 = 0 then last else 44)
   ·rw [if_pos hb] at hy
    rw [if_pos rfl] at hb
    rw [ptSer] at hy
    simp only [Option.map_some, Option.some.injEq] at hy
    subst hy
    simp only [allsOk, sizes] at hok hsz
    have := h a c x hf hok.1 (by omega) (dg_no hb.2 (by omega))
    rw [List.replicate_zero, List.nil_append, ctEnds, this]
    dsimp only
    rw [if_neg (by omega), if_pos hb.2, ctEnds]
    simp [sizes]
   ·rw [if_neg hb] at hy; cases hy
 | m + 1, a, c, y, hy, hok, hsz => by
  rw [ptSer] at hy
  cases hf : g a with
  | none => rw [hf] at hy; cases hy
  | some x =>
   rw [hf] at hy
   dsimp only at hy
   by_cases hb : x.2 < s.size ∧ byteAt s x.2 = (if m + 1 = 0 then last else 44)
   ·rw [if_pos hb] at hy
    rw [if_neg (by omega)] at hb
    obtain ⟨z, hz, rfl⟩ := Option.map_eq_some_iff.1 hy
    simp only [allsOk, sizes] at hok hsz
    have h1 := h a c x hf hok.1 (by omega) (dg_no hb.2 (by omega))
    have h2 := full_ends h last hl m (x.2 + 1) (c + x.1.size) z hz hok.2 (by omega)
    rw [List.replicate_succ, List.cons_append, ctEnds, h1]
    dsimp only
    rw [if_neg (by decide), if_pos hb.2, h2]
    simp [sizes]
    omega
   ·rw [if_neg hb] at hy; cases hy
theorem full_one {s : ByteArray} {g : Nat → Option (Tm × Nat)} {f : Nat → Nat → Option (Tm × Nat × Nat)} (h : FullAt s g f) {k : Int} {a c : Nat} {x : Tm × Nat} (hy : (g a).map (fun x => (Tm.mk k 0 [x.1], x.2)) = some x) (hok : x.1.allOk) (hsz : c + x.1.size ≤ 401) (hd : dg s x.2 = false) :
  ctNode s f k [0] a c = some (x.1, x.2, c + x.1.size - 1) := by
 obtain ⟨z, hz, rfl⟩ := Option.map_eq_some_iff.1 hy
 simp only [Tm.allOk, Tm.size, allsOk, sizes] at hok hsz
 have h1 := h a c z hz hok.2.1 (by omega) hd
 unfold ctNode
 rw [ctEnds, h1]
 dsimp only
 rw [if_pos rfl, ctEnds]
 simp [Tm.size, sizes]
 omega
end Go.Proofs.YtjdmfegdgpbkgaaGreat
