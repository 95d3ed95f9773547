/-
  CurQ.
-/
import Derived.Test.YtjdmfegdgpbkgaaGreatO02
import Derived.Test.YtjdmfegdgpbkgaaGreatO03
import Derived.Test.YtjdmfegdgpbkgaaGreatO06
import Derived.Test.YtjdmfegdgpbkgaaGreatO12
import Derived.Test.YtjdmfegdgpbkgaaGreatO13
import Derived.Test.YtjdmfegdgpbkgaaGreatO25
import Derived.Test.YtjdmfegdgpbkgaaGreatO26
import Derived.Deep.RegionHeld3
import Derived.IntWalk
import Derived.Laws.IdiomStrings
import Derived.Orders
import Derived.ProofKit
import Derived.RowKit
import Derived.Test.YtjdmfegdgpbkgaaGreatProg
import Derived.WalkSpells
namespace Go.Proofs.YtjdmfegdgpbkgaaGreat
set_option linter.unusedVariables false
def ctEnds (s : ByteArray) (f : Nat → Nat → Option (Tm × Nat × Nat)) : List Nat → Nat → Nat → Option (List Tm × Nat × Nat)
 | [], a, c => some ([], a, c)
 | e :: es, a, c => match f a c with
  | none => none
  | some x => if e = 0 then (ctEnds s f es x.2.1 x.2.2).map fun y => (x.1 :: y.1, y.2) else if byteAt s x.2.1 = e then (ctEnds s f es (x.2.1 + 1) x.2.2).map fun y => (x.1 :: y.1, y.2) else none
def ctNode (s : ByteArray) (f : Nat → Nat → Option (Tm × Nat × Nat)) (k : Int) (es : List Nat) (a c : Nat) : Option (Tm × Nat × Nat) := (ctEnds s f es a c).map fun y => (.mk k 0 y.1, y.2)
def ctNum (s : ByteArray) (k : Int) (lim a c : Nat) : Option (Tm × Nat × Nat) := (numC s lim a).map fun x => (.mk k x.1 [], x.2, c)
def ctPlain (s : ByteArray) (f : Nat → Nat → Option (Tm × Nat × Nat)) (b a c : Nat) : Option (Tm × Nat × Nat) :=
 if b = 42 then ctNum s 2 3 a c
 else if b = 78 then some (.mk 6 0 [], a, c)
 else if b = 48 then some (.mk 7 0 [], a, c)
 else if b = 43 then ctNode s f 8 [0] a c
 else if b = 60 then ctNode s f 9 [44, 44, 44, 62] a c
 else if b = 123 then ctNode s f 10 [44, 44, 125] a c
 else if b = 33 then ctNode s f 11 [0] a c
 else if b = 64 then (if byteAt s a = 60 then ctNode s f 12 [44, 44, 62] (a + 1) c else none)
 else if b = 124 then ctNode s f 14 [44, 44, 124] a c
 else if b = 94 then ctNode s f 15 [0] a c
 else if b = 95 then ctNode s f 16 [0] a c
 else none
def SoundAt (g : Nat → Option (Tm × Nat)) (f : Nat → Nat → Option (Tm × Nat × Nat)) : Prop :=
 ∀ a c x, f a c = some x → g a = some (x.1, x.2.1) ∧ x.2.2 = c + x.1.size ∧ x.1.allOk ∧ (c ≤ 400 → x.2.2 ≤ 400) ∧ a < x.2.1
theorem sound_ends {s : ByteArray} {g : Nat → Option (Tm × Nat)} {f : Nat → Nat → Option (Tm × Nat × Nat)} (h : SoundAt g f) (last : Nat) (hl : last ≠ 0) : ∀ (m a c : Nat) (y : List Tm × Nat × Nat), ctEnds s f (List.replicate m 44 ++ [last]) a c = some y →
  ptSer s g last (m + 1) a = some (y.1, y.2.1) ∧ y.2.2 = c + sizes y.1 ∧ allsOk y.1 ∧ (c ≤ 400 → y.2.2 ≤ 400) ∧ a < y.2.1 ∧ y.1.length = m + 1
 | 0, a, c, y, hy => by
  rw [List.replicate_zero, List.nil_append, ctEnds] at hy
  cases hf : f a c with
  | none => rw [hf] at hy; cases hy
  | some x =>
   rw [hf] at hy
   dsimp only at hy
   rw [if_neg hl] at hy
   obtain ⟨h1, h2, h3, h4, h5⟩ := h a c x hf
   split at hy
   ·rename_i hb
    rw [ctEnds] at hy
    simp only [Option.map_some, Option.some.injEq] at hy
    subst hy
    have hlt := byte_lt hb hl
    refine ⟨?_, by simp [sizes]; omega, by simp [allsOk, h3], h4, by dsimp only; omega, rfl⟩
    rw [ptSer, h1]
    dsimp only
    rw [if_pos ⟨hlt, by rw [if_pos rfl]; exact hb⟩, ptSer]
    rfl
   ·cases hy
 | m + 1, a, c, y, hy => by
  rw [List.replicate_succ, List.cons_append, ctEnds] at hy
  cases hf : f a c with
  | none => rw [hf] at hy; cases hy
  | some x =>
   rw [hf] at hy
   dsimp only at hy
   rw [if_neg (by decide)] at hy
   obtain ⟨h1, h2, h3, h4, h5⟩ := h a c x hf
   split at hy
   ·rename_i hb
    obtain ⟨z, hz, rfl⟩ := Option.map_eq_some_iff.1 hy
    obtain ⟨g1, g2, g3, g4, g5, g6⟩ := sound_ends h last hl m (x.2.1 + 1) x.2.2 z hz
    have hlt := byte_lt hb (by decide)
    refine ⟨?_, by dsimp only; rw [sizes]; omega, by rw [allsOk]; exact ⟨h3, g3⟩, fun hc => g4 (h4 hc), by dsimp only; omega, by rw [List.length_cons, g6]⟩
    rw [ptSer, h1]
    dsimp only
    rw [if_pos ⟨hlt, by rw [if_neg (by omega)]; exact hb⟩, g1]
    rfl
   ·cases hy
theorem sound_one {s : ByteArray} {g : Nat → Option (Tm × Nat)} {f : Nat → Nat → Option (Tm × Nat × Nat)} (h : SoundAt g f) {k : Int} {a c : Nat} {x : Tm × Nat × Nat} (hk : arity k = 1) (hm : 0 ≤ mostN k) (hy : ctNode s f k [0] a c = some x) :
  (g a).map (fun x => (Tm.mk k 0 [x.1], x.2)) = some (x.1, x.2.1) ∧ x.2.2 + 1 = c + x.1.size ∧ x.1.allOk ∧ (c ≤ 400 → x.2.2 ≤ 400) ∧ a < x.2.1 := by
 unfold ctNode at hy
 obtain ⟨z, hz, rfl⟩ := Option.map_eq_some_iff.1 hy
 rw [ctEnds] at hz
 cases hf : f a c with
 | none => rw [hf] at hz; cases hz
 | some y =>
  rw [hf] at hz
  dsimp only at hz
  rw [if_pos rfl, ctEnds] at hz
  simp only [Option.map_some, Option.some.injEq] at hz
  subst hz
  obtain ⟨h1, h2, h3, h4, h5⟩ := h a c y hf
  refine ⟨by rw [h1]; rfl, by simp [Tm.size, sizes]; omega, ?_, h4, h5⟩
  rw [Tm.allOk]
  exact ⟨⟨by rw [hk]; rfl, Int.le_refl _, hm⟩, by simp [allsOk, h3]⟩
theorem sound_num {s : ByteArray} {k : Int} {lim d a c : Nat} {x : Tm × Nat × Nat} (hn : ∀ x, numC s lim a = some x ↔ ptNum s a d = some x ∧ x.1 ≤ lim ∧ dg s x.2 = false) (hk : arity k = 0) (hm : mostN k = lim) (hge : ∀ x, ptNum s a d = some x → a ≤ x.2) (hy : ctNum s k lim a c = some x) :
  (ptNum s a d).map (fun x => (Tm.mk k x.1 [], x.2)) = some (x.1, x.2.1) ∧ x.2.2 + 1 = c + x.1.size ∧ x.1.allOk ∧ x.2.2 = c ∧ a ≤ x.2.1 := by
 unfold ctNum at hy
 obtain ⟨z, hz, rfl⟩ := Option.map_eq_some_iff.1 hy
 obtain ⟨h1, h2, h3⟩ := (hn z).1 hz
 refine ⟨by rw [h1]; rfl, by simp [Tm.size, sizes], ?_, rfl, hge z h1⟩
 rw [Tm.allOk]
 exact ⟨⟨by rw [hk]; rfl, by omega, by rw [hm]; omega⟩, by simp [allsOk]⟩
theorem ptNum_ge {s : ByteArray} {a d : Nat} {x : Nat × Nat} (h : ptNum s a d = some x) : a ≤ x.2 := by
 unfold ptNum at h
 split at h
 ·simp only [Option.some.injEq] at h; rw [← h]; dsimp only; omega
 ·cases h
end Go.Proofs.YtjdmfegdgpbkgaaGreat
