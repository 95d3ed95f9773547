/-
  NsH.
-/
import Derived.Test.YtjdmfegdgpbkgaaGreatO21
import Derived.Test.YtjdmfegdgpbkgaaGreatO44
namespace Go.Proofs.YtjdmfegdgpbkgaaGreat
open Go.RowKit
set_option linter.unusedVariables false
def N6Ok (s : ByteArray) (d B : Nat) : Prop := ∀ (nm : ByteArray) (a : Nat) (w : World), nm.size ≤ B → Calls Tryz.prog 47 #[.string s, .int .i64 a, .string nm, .int .i64 d] w (PPost s w (npt s d (bl nm nm.size) a))
def rOut (s : ByteArray) (kf : Nat → Int) (f2 : Nat → Option (Tm × Nat)) : Option (Tm × Nat) → Option (Tm × Nat)
 | none => none
 | some x => if x.2 < s.size then (match f2 (x.2 + 1) with
  | none => none
  | some y => if kf (byteAt s x.2) ≠ 0 ∧ y.2 < s.size ∧ byteAt s y.2 = 41 then some (.mk (kf (byteAt s x.2)) 0 [x.1, y.1], y.2 + 1) else none) else none
theorem bl_appL (s t : ByteArray) : ∀ i, i ≤ s.size → bl (s ++ t) i = bl s i
 | 0, _ => rfl
 | i + 1, h => by
  have h1 : i < (s ++ t).size := by rw [ByteArray.size_append]; omega
  have h2 : i < s.size := by omega
  rw [bl, bl, dif_pos h1, dif_pos h2, bl_appL s t i (by omega), ByteArray.getElem_append_left h2]
theorem bl_push (nm s : ByteArray) {a : Nat} (h : a < s.size) : bl (nm ++ s.extract a (a + 1)) (nm ++ s.extract a (a + 1)).size = (byteAt s a : Int) :: bl nm nm.size := by
 have hz1 : (s.extract a (a + 1)).size = 1 := by rw [ByteArray.size_extract]; omega
 have hz : (nm ++ s.extract a (a + 1)).size = nm.size + 1 := by rw [ByteArray.size_append, hz1]
 rw [hz, bl, dif_pos (by omega), bl_appL _ _ _ (Nat.le_refl _)]
 congr 1
 rw [ByteArray.getElem_append_right (Nat.le_refl _), ByteArray.getElem_extract, byteAt_eq h]
 simp
end Go.Proofs.YtjdmfegdgpbkgaaGreat
