/-
  ImplS, SpecK.
-/
import Derived.Test.YtmgoajgjpgamcaaB04
import Derived.Test.YtmgoajgjpgamcaaB11
import Derived.Test.YtmgoajgjpgamcaaB17
namespace Go.Proofs.Ytmgoajgjpgamcaa
open Go.RowKit
theorem SlIn.set3 {w : World} {B g i j k : Nat} {l : List Tm} {v x y z : Value} (h : SlIn w B l v) (hg : g < B) : SlIn (((w.setCell ⟨g, i, none⟩ x).setCell ⟨g, j, none⟩ y).setCell ⟨g, k, none⟩ z) B l v :=
 ((h.setCell (p := ⟨g, i, none⟩) hg _).setCell (p := ⟨g, j, none⟩) hg _).setCell (p := ⟨g, k, none⟩) hg _
end Go.Proofs.Ytmgoajgjpgamcaa
namespace Go.Proofs.Ytmgoajgjpgamcaa
open Go.RowKit
theorem most_valid {t : Tm} (h : t.Valid) : t.most 0 ≤ 21 := (t.most_bd 0 h.1 (Int.le_refl 0)).2
end Go.Proofs.Ytmgoajgjpgamcaa
