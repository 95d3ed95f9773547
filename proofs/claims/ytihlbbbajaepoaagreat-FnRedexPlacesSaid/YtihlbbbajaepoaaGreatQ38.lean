/-
  PlF.
-/
import Derived.Test.YtihlbbbajaepoaaGreatQ06
import Derived.Test.YtihlbbbajaepoaaGreatQ29
import Derived.Test.YtihlbbbajaepoaaGreatQ31
namespace Go.Proofs.YtihlbbbajaepoaaGreat
open Go.RowKit
noncomputable def orNone (P : Prop) (n : Int) : Int := @ite _ P (Classical.propDecidable _) n 0
def NumRes (w : World) (P : Prop) (n : Int) (e : Ending) (w' : World) : Prop := Below w.heap.size w w' ∧ e = .returned (.tuple #[.int .i64 (orNone P n), .bool (tr P)])
theorem NumRes.no {w w' : World} {P : Prop} {n : Int} (hP : ¬ P) (hb : Below w.heap.size w w') : NumRes w P n (.returned (.tuple #[.int .i64 0, .bool false])) w' := by
 refine ⟨hb, ?_⟩
 unfold orNone
 rw [if_neg hP, tr_not hP]
theorem NumRes.yes {w w' : World} {P : Prop} {n m : Int} (hP : P) (hm : m = n) (hb : Below w.heap.size w w') : NumRes w P n (.returned (.tuple #[.int .i64 m, .bool true])) w' := by
 refine ⟨hb, ?_⟩
 unfold orNone
 rw [if_pos hP, tr_of hP, hm]
set_option maxRecDepth 100000 in
set_option maxHeartbeats 1600000 in
theorem bindersI_any (t : Tm) (N : Int → Int) (len : Nat) (hlen : len ≤ 1048576) (w : World) (vt vp : Value) (ht : TmIn w 0 t vt) (hp : Ints w 0 N len vp) :
  Calls Tryz.prog 26 #[vt, vp] w (NumRes w (IsPlace t N len) (bindersIn (wayP t N len))) := by
 obtain ⟨s, rfl, hs⟩ := ht
 obtain ⟨a, c, rfl⟩ := hs.form
 obtain ⟨pa, pc, rfl⟩ := hp.form
 have HNO : Hid (¬ IsPlace t N len → ∀ w', Below w.heap.size w w' → NumRes w (IsPlace t N len) (bindersIn (wayP t N len)) (.returned (.tuple #[.int .i64 0, .bool false])) w') := tuck fun h w' hb => NumRes.no h hb
 have HYES : Hid (IsPlace t N len → ∀ w' (m : Nat), m = bindersIn (wayP t N len) → Below w.heap.size w w' → NumRes w (IsPlace t N len) (bindersIn (wayP t N len)) (.returned (.tuple #[.int .i64 (m : Int), .bool true])) w') := tuck fun h w' m hm hb => NumRes.yes h (by rw [hm]) hb
 generalize NumRes w (IsPlace t N len) (bindersIn (wayP t N len)) = post at *
 have HS := tuck hs
 have HP := tuck hp
 have HB0 := tuck (below1 w (.cells #[.int .i64 t.kind, .int .i64 t.num, .slice a t.kids.length c] 34))
 obtain ⟨z, d0, d1, d2, df⟩ := (VarAt.new w t.kind t.num (.slice a t.kids.length c)).facts
 clear hs hp
 go_enter Tryz.func26, Tryz.ntmps26
 go_wp2_with fail
 generalize w.alloc (.cells #[.int .i64 t.kind, .int .i64 t.num, .slice a t.kids.length c] 34) = W0 at *
 refine (placeI_any t N len hlen W0 _ _ ⟨_, rfl, HS.out.below HB0.out⟩ (HP.out.below HB0.out)).mono ?_
 rintro e w1 ⟨hb1, hat⟩
 have HB1 := tuck (bAfter HB0.out hb1)
 clear z d0 d1 d2 df HP HS hb1
 rcases hat with ⟨hpl, g, M, rfl, hcur, -⟩ | ⟨hno, rfl⟩
 ·have HY := tuck (HYES.out hpl)
  have hk := hpl.ok
  have HSC := tuck (scopeI_any hk.inn (by have := (hk.short hpl.1).2; omega) hcur)
  have hln := scopeOf_length (wayP t N len)
  clear hcur hk HYES HNO
  go_wp2_with fail
  refine HSC.out.mono ?_
  rintro e w2 ⟨hb2, ya, yc, rfl, -⟩
  have HB2 := tuck (bAfter HB1.out hb2)
  rw [hln]
  have hl100 : bindersIn (wayP t N len) ≤ 1000 := Nat.le_trans (bindersIn_le _) (by have := (hpl.ok.short hpl.1).2; omega)
  clear hb2 hln hpl HSC
  generalize bindersIn (wayP t N len) = m at *
  go_wp2_with fail
  exact HY.out _ m rfl HB2.out
 ·go_wp2_with fail
  exact HNO.out hno _ HB1.out
end Go.Proofs.YtihlbbbajaepoaaGreat
