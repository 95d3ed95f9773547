/-
  DrawNumeral.
-/
import Derived.Test.YtjhjnkeildeedaaDraw
namespace Go.Proofs.Ytjhjnkeildeedaa
open Go.RowKit

/-- An int, and new blocks alone. -/
def AnyInt (w : World) (e : Ending) (w' : World) : Prop := ∃ x : Int, e = .returned (.int .i64 x) ∧ Below w.heap.size w w'

theorem drawNum_any {U : Nat → Int} {a : Option Addr} {b o len cap : Nat} (w : World) (hlen : len ≤ 140737488355328) (hcap : len ≤ cap) (hby : Bytes U a b o len w) : Calls Try.prog 26 #[.slice a len cap] w (AnyInt w) := by
  have HO := tuck (open_any w hlen hcap hby)
  have HP : Hid (∀ x w', Below w.heap.size w w' → AnyInt w (.returned (.int .i64 x)) w') := fun x w' h => ⟨x, rfl, h⟩
  generalize AnyInt w = post at *
  clear hby
  go_enter Try.func26, Try.ntmps26
  go_wp2_with fail
  refine HO.out.mono ?_
  rintro e w1 ⟨a', len', cap', rfl, hl, hbl, hrd, hby, hb1, hz⟩
  have HBW := tuck hbl
  clear hbl
  have HRD := tuck hrd
  have HBY := tuck hby
  have HB1 := tuck hb1
  clear hrd hby hb1 HO
  go_wp2_with fail
  refine (num_any (N := fun i => ([0, 1, 2, 3, 20, 21, -1, 9223372036854775807] : List Int).getD i 0) (o2 := 0) (n := 8) _ hl (by omega) (by omega) (by omega) (HRD.out.below (below1 _ _)) (HBY.out.below (below1 _ _)) (fun h => Nat.ne_of_lt (HBW.out h)) (ints_new [0, 1, 2, 3, 20, 21, -1, 9223372036854775807] w1 3) (Nat.ne_of_gt hz)).mono ?_
  rintro e w2 ⟨i, _, rfl, _, ho⟩
  have HB2 := tuck (Only.below (bAfter HB1.out (below1 _ _)) ho (Nat.le_refl _) (Nat.le_trans HB1.out.size (below1 _ _).size))
  clear ho
  generalize ([0, 1, 2, 3, 20, 21, -1, 9223372036854775807] : List Int).getD i 0 = x at *
  go_wp2_with fail
  exact HP.out _ _ HB2.out

end Go.Proofs.Ytjhjnkeildeedaa
