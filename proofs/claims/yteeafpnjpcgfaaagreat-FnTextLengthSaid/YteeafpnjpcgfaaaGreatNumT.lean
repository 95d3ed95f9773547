/-
  Numerals as trees: their nodes, their depth, that they are valid; the number whose numeral a term is.
-/
import Derived.Test.YteeafpnjpcgfaaaGreatModel
import Derived.Test.YteeafpnjpcgfaaaGreatNum
namespace Go.Proofs.YteeafpnjpcgfaaaGreat
open Go.RowKit

theorem numT_inj {m n : Nat} (h : numT m = numT n) : m = n := by
  have := congrArg Tm.size h
  rw [numT_size, numT_size] at this
  omega

noncomputable def nok (t : Tm) : Bool := tr (∃ m : Nat, m ≤ 20 ∧ t = numT m)
noncomputable def nval (t : Tm) : Int := @dite _ (∃ m : Nat, m ≤ 20 ∧ t = numT m) (Classical.propDecidable _) (fun h => ((Classical.choose h : Nat) : Int)) (fun _ => 0)
theorem nok_yes {t : Tm} {m : Nat} (hm : m ≤ 20) (h : t = numT m) : nok t = true ∧ nval t = m := by
  have hex : ∃ m : Nat, m ≤ 20 ∧ t = numT m := ⟨m, hm, h⟩
  refine ⟨tr_of hex, ?_⟩
  unfold nval
  rw [dif_pos hex]
  have h2 := Classical.choose_spec hex
  have := numT_inj (h2.2.symm.trans h)
  omega
theorem nok_no {t : Tm} (h : ∀ m : Nat, m ≤ 20 → t ≠ numT m) : nok t = false ∧ nval t = 0 := by
  have hex : ¬ ∃ m : Nat, m ≤ 20 ∧ t = numT m := fun ⟨m, hm, e⟩ => h m hm e
  refine ⟨tr_not hex, ?_⟩
  unfold nval
  rw [dif_neg hex]

def NValPost (w : World) (t : Tm) (e : Ending) (w' : World) : Prop := e = .returned (.tuple #[.int .i64 (nval t), .bool (nok t)]) ∧ Below w.heap.size w w'
theorem NValPost.yes {w w' : World} {t : Tm} {m : Nat} (hm : m ≤ 20) (h : t = numT m) (hb : Below w.heap.size w w') : NValPost w t (.returned (.tuple #[.int .i64 m, .bool true])) w' := by
  obtain ⟨h1, h2⟩ := nok_yes hm h
  exact ⟨by rw [h1, h2], hb⟩
theorem NValPost.no {w w' : World} {t : Tm} (h : ∀ m : Nat, m ≤ 20 → t ≠ numT m) (hb : Below w.heap.size w w') : NValPost w t (.returned (.tuple #[.int .i64 0, .bool false])) w' := by
  obtain ⟨h1, h2⟩ := nok_no h
  exact ⟨by rw [h1, h2], hb⟩

theorem numT_rootOk (m : Nat) : (numT m).rootOk := by
  cases m with
  | zero => exact ⟨rfl, by decide, by decide⟩
  | succ m => exact ⟨rfl, show (0 : Int) ≤ 0 by decide, show (0 : Int) ≤ mostN 8 by decide⟩
theorem root7 {x : Tm} (h : x.rootOk) (hk : x.kind = 7) : x = numT 0 := by
  obtain ⟨k, n, l⟩ := x
  obtain ⟨h1, h2, h3⟩ := h
  simp only [Tm.kind, Tm.num, Tm.kids] at *
  subst hk
  have : l = [] := by
    have : arity 7 = 0 := rfl
    exact List.length_eq_zero_iff.1 (by omega)
  have e : n = 0 := by
    have : mostN 7 = 0 := rfl
    omega
  subst e
  rw [this, numT]
theorem root8 {x : Tm} (h : x.rootOk) (hk : x.kind = 8) : ∃ y, x = .mk 8 0 [y] := by
  obtain ⟨k, n, l⟩ := x
  obtain ⟨h1, h2, h3⟩ := h
  simp only [Tm.kind, Tm.num, Tm.kids] at *
  subst hk
  have hl : l.length = 1 := by
    have : arity 8 = 1 := rfl
    omega
  have e : n = 0 := by
    have : mostN 8 = 0 := rfl
    omega
  subst e
  match l, hl with
  | [y], _ => exact ⟨y, rfl⟩

theorem hgt_numT (m : Nat) : (numT m).hgt = m + 1 := by
  induction m with
  | zero => rw [numT, Tm.hgt, hgts]
  | succ m ih => rw [numT, Tm.hgt, hgts, hgts, ih]; omega
theorem allOk_numT (m : Nat) : (numT m).allOk := by
  induction m with
  | zero => exact ⟨numT_rootOk 0, trivial⟩
  | succ m ih => exact ⟨numT_rootOk (m + 1), ih, trivial⟩
theorem valid_numT {m : Nat} (h : m ≤ 20) : (numT m).Valid := ⟨allOk_numT m, by rw [hgt_numT]; omega, by rw [numT_size]; omega⟩

end Go.Proofs.YteeafpnjpcgfaaaGreat
