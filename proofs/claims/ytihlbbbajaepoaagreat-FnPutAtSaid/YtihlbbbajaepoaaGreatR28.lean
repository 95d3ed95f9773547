/-
  PlD.
-/
import Derived.Test.YtihlbbbajaepoaaGreatR17
import Derived.Test.YtihlbbbajaepoaaGreatR23
import Derived.Test.YtihlbbbajaepoaaGreatR27
namespace Go.Proofs.YtihlbbbajaepoaaGreat
open Go.RowKit
set_option maxRecDepth 100000 in
set_option maxHeartbeats 1600000 in
theorem termAtS_any (t : Tm) (N : Int → Int) (len : Nat) (hlen : len ≤ 1048576) (w : World) (vt vp : Value) (ht : TmIn w 0 t vt) (hp : Ints w 0 N len vp) :
  Calls Tryz.prog 24 #[vt, vp] w (TlRes w (IsPlace t N len) (wayT t N len)) := by
 obtain ⟨s, rfl, hs⟩ := ht
 obtain ⟨a, c, rfl⟩ := hs.form
 obtain ⟨pa, pc, rfl⟩ := hp.form
 have HNO : Hid (¬ IsPlace t N len → ∀ w', Below w.heap.size w w' → TlRes w (IsPlace t N len) (wayT t N len) (.returned (.tuple #[.agg #[.int .i64 0, .int .i64 0, .slice none 0 0], .bool false])) w') := tuck fun h w' hb => TlRes.no h hb
 have HYES : Hid (IsPlace t N len → ∀ w' a c, Below w.heap.size w w' → SlIn w' w.heap.size (wayT t N len).kids (.slice a (wayT t N len).kids.length c) → TlRes w (IsPlace t N len) (wayT t N len) (.returned (.tuple #[.agg #[.int .i64 (wayT t N len).kind, .int .i64 (wayT t N len).num, .slice a (wayT t N len).kids.length c], .bool true])) w') := tuck fun h w' a c hb hs => TlRes.yes h hb hs
 generalize TlRes w (IsPlace t N len) (wayT t N len) = post at *
 have HS := tuck hs
 have HP := tuck hp
 have HBX := tuck ((VarAt.new w t.kind t.num (.slice a t.kids.length c)).below (below1 _ (.cells #[.int .i64 0, .int .i64 0, .slice none 0 0] 34)))
 have HBR := tuck (var_new1 w (.cells #[.int .i64 t.kind, .int .i64 t.num, .slice a t.kids.length c] 34) 0 0 (.slice none 0 0))
 clear hs hp
 have HB0 := tuck (below2 w (.cells #[.int .i64 t.kind, .int .i64 t.num, .slice a t.kids.length c] 34) (.cells #[.int .i64 0, .int .i64 0, .slice none 0 0] 34))
 go_enter Tryz.func24, Tryz.ntmps24
 go_wp2_with fail
 generalize (w.alloc (.cells #[.int .i64 t.kind, .int .i64 t.num, .slice a t.kids.length c] 34)).alloc (.cells #[.int .i64 0, .int .i64 0, .slice none 0 0] 34) = W0 at *
 refine (validS_any t W0 _ ⟨_, rfl, HS.out.below HB0.out⟩).mono ?_
 rintro e w1 ⟨rfl, hb1⟩
 have HB1 := tuck (bAfter HB0.out hb1)
 have HR1 := tuck (HBR.out.below hb1)
 obtain ⟨z, d0, d1, d2, df⟩ := (HBX.out.below hb1).facts
 clear hb1 HB0 HBX HBR
 by_cases hv : t.Valid
 case neg =>
  rw [tr_not hv]
  obtain ⟨z1, r0, r1, r2, rf⟩ := HR1.out.facts
  go_wp2_with fail
  refine bodyPost_ret (v := .tuple #[.agg #[.int .i64 0, .int .i64 0, .slice none 0 0], .bool false]) (by simp [results, Tryz.results24, go_sem, *]) rfl (HNO.out (fun h => hv h.1) _ ?_)
  exact bSet3 HB1.out (Nat.le_succ _) _ _ _ _ _ _
 rw [tr_of hv]
 go_wp2_with fail
 refine (l8at_any t N len hlen w1 _ _ (HS.out.below HB1.out) (HP.out.below HB1.out)).mono ?_
 rintro e w2 ⟨hb2, hat⟩
 have HB2 := tuck (bAfter HB1.out hb2)
 have HR2 := tuck (HR1.out.below hb2)
 clear z d0 d1 d2 df
 rcases hat with ⟨p, x, xa, xc, hw, rfl, hsx⟩ | ⟨hw, rfl⟩
 ·have hpl := is_place hv hw
  have hsz := (valid_bounds (way_ok hv _ _ _ hw).valid).1
  have hb3 := below1 w2 (.cells #[.int .i64 x.kind, .int .i64 x.num, .slice xa x.kids.length xc] 34)
  have HY := tuck (HYES.out hpl.1)
  rw [hpl.2.2] at HY
  obtain ⟨zx, x0, x1, x2, -⟩ := (VarAt.new w2 x.kind x.num (.slice xa x.kids.length xc)).facts
  have HCP := tuck (tl_copyS x (by omega) _ _ ((hsx.below hb2).below hb3))
  have HB3 := tuck (bAfter HB2.out hb3)
  have HR3 := tuck (HR2.out.below hb3)
  clear hw hsx hpl hsz hb3 hb2 HYES HNO HB2 HR2 HB1 HR1
  go_wp2_with fail
  refine HCP.out.mono ?_
  rintro e w4 ⟨hb4, ya, yc, rfl, hy⟩
  obtain ⟨z1, r0, r1, r2, rf⟩ := (HR3.out.below hb4).facts
  have HZ := tuck (show w.heap.size + 1 < _ from HR3.out.facts.1)
  go_wp2_with fail
  refine bodyPost_ret (v := .tuple #[.agg #[.int .i64 x.kind, .int .i64 x.num, .slice ya x.kids.length yc], .bool true]) (by simp [results, Tryz.results24, go_sem, *]) rfl (HY.out _ ya yc ?_ ?_)
  ·exact bSet3 (bAfter HB3.out hb4) (Nat.le_succ _) _ _ _ _ _ _
  ·exact SlIn.mono (tl_sl3 hy HZ.out) HB3.out.size
 ·have hno : ¬ IsPlace t N len := fun h => by have := h.2; rw [hw] at this; cases this
  have hb3 := below1 w2 (.cells #[.int .i64 0, .int .i64 0, .slice none 0 0] 34)
  have HB3 := tuck (bAfter HB2.out hb3)
  obtain ⟨z1, r0, r1, r2, rf⟩ := (HR2.out.below hb3).facts
  clear hb3
  go_wp2_with fail
  refine bodyPost_ret (v := .tuple #[.agg #[.int .i64 0, .int .i64 0, .slice none 0 0], .bool false]) (by simp [results, Tryz.results24, go_sem, *]) rfl (HNO.out hno _ ?_)
  exact bSet3 HB3.out (Nat.le_succ _) _ _ _ _ _ _
set_option maxRecDepth 100000 in
set_option maxHeartbeats 1600000 in
theorem termAtI_any (t : Tm) (N : Int → Int) (len : Nat) (hlen : len ≤ 1048576) (w : World) (vt vp : Value) (ht : TmIn w 0 t vt) (hp : Ints w 0 N len vp) :
  Calls Tryz.prog 23 #[vt, vp] w (ReplPost w (IsPlace t N len) (wayT t N len)) := by
 obtain ⟨s, rfl, hs⟩ := ht
 obtain ⟨a, c, rfl⟩ := hs.form
 obtain ⟨pa, pc, rfl⟩ := hp.form
 have HNO : Hid (¬ IsPlace t N len → ∀ w', Below w.heap.size w w' → ReplPost w (IsPlace t N len) (wayT t N len) (.returned (.tuple #[.agg #[.int .i64 0, .int .i64 0, .slice none 0 0], .bool false])) w') := tuck fun h w' hb => ReplPost.no h hb
 have HYES : Hid (IsPlace t N len → ∀ w' s F, Below w.heap.size w w' → SlOwn w' (wayT t N len).kids s F → F.Nodup → (∀ g ∈ F, w.heap.size ≤ g ∧ g < w'.heap.size) → ReplPost w (IsPlace t N len) (wayT t N len) (.returned (.tuple #[.agg #[.int .i64 (wayT t N len).kind, .int .i64 (wayT t N len).num, s], .bool true])) w') := tuck fun h w' s F hb hs hn hF => ReplPost.yes h hb hs hn hF
 generalize ReplPost w (IsPlace t N len) (wayT t N len) = post at *
 have HS := tuck hs
 have HP := tuck hp
 have HBX := tuck ((VarAt.new w t.kind t.num (.slice a t.kids.length c)).below (below1 _ (.cells #[.int .i64 0, .int .i64 0, .slice none 0 0] 34)))
 have HBR := tuck (var_new1 w (.cells #[.int .i64 t.kind, .int .i64 t.num, .slice a t.kids.length c] 34) 0 0 (.slice none 0 0))
 clear hs hp
 have HB0 := tuck (below2 w (.cells #[.int .i64 t.kind, .int .i64 t.num, .slice a t.kids.length c] 34) (.cells #[.int .i64 0, .int .i64 0, .slice none 0 0] 34))
 obtain ⟨z, d0, d1, d2, df⟩ := HBX.out.facts
 clear HBX
 go_enter Tryz.func23, Tryz.ntmps23
 go_wp2_with fail
 generalize (w.alloc (.cells #[.int .i64 t.kind, .int .i64 t.num, .slice a t.kids.length c] 34)).alloc (.cells #[.int .i64 0, .int .i64 0, .slice none 0 0] 34) = W0 at *
 refine (placeI_any t N len hlen W0 _ _ ⟨_, rfl, HS.out.below HB0.out⟩ (HP.out.below HB0.out)).mono ?_
 rintro e w1 ⟨hb1, hat⟩
 have HB1 := tuck (bAfter HB0.out hb1)
 have HR1 := tuck (HBR.out.below hb1)
 clear z d0 d1 d2 df HBR HP HS
 rcases hat with ⟨hpl, g, M, rfl, hcur, -⟩ | ⟨hno, rfl⟩
 ·have hsz := (valid_bounds hpl.ok.valid).1
  have HY := tuck (HYES.out hpl)
  obtain ⟨xa, xc, zg, g0, g1, g2, hx⟩ := hcur.open
  have HX := tuck hx
  have HCL : Hid (∀ (W : World) (s : Value), SlIn W 0 (wayT t N len).kids s → Calls Tryz.prog 61 #[.agg #[.int .i64 (wayT t N len).kind, .int .i64 (wayT t N len).num, s]] W (MadePost W (wayT t N len))) := tuck fun W s hs => by
   have := cloneI_any (wayT t N len).kids (wayT t N len).kind (wayT t N len).num W _ (by omega) hs
   rwa [Tm.eta] at this
  clear hcur hx hsz HYES HNO hpl hb1
  generalize wayT t N len = x at *
  go_wp2_with fail
  refine (HCL.out _ _ HX.out).mono ?_
  rintro e w4 ⟨hb4, v4, rfl, s4, F, rfl, hs4, hn4, hF4⟩
  obtain ⟨ya, yc, rfl⟩ := hs4.form
  obtain ⟨z1, r0, r1, r2, rf⟩ := (HR1.out.below hb4).facts
  have HZ := tuck (show w.heap.size + 1 < _ from HR1.out.facts.1)
  go_wp2_with fail
  refine bodyPost_ret (v := .tuple #[.agg #[.int .i64 x.kind, .int .i64 x.num, .slice ya x.kids.length yc], .bool true]) (by simp [results, Tryz.results23, go_sem, *]) rfl (HY.out _ _ F ?_ ?_ hn4 (fun g hg => ?_))
  ·exact bSet3 (bAfter HB1.out hb4) (Nat.le_succ _) _ _ _ _ _ _
  ·exact hs4.set3 (fun h => by have := (hF4 _ h).1; have := HZ.out; omega) _ _ _ _ _ _
  ·rw [size_set3]
   have := hF4 g hg
   have := HZ.out
   omega
 ·obtain ⟨z1, r0, r1, r2, rf⟩ := HR1.out.facts
  go_wp2_with fail
  refine bodyPost_ret (v := .tuple #[.agg #[.int .i64 0, .int .i64 0, .slice none 0 0], .bool false]) (by simp [results, Tryz.results23, go_sem, *]) rfl (HNO.out hno _ ?_)
  exact bSet3 HB1.out (Nat.le_succ _) _ _ _ _ _ _
end Go.Proofs.YtihlbbbajaepoaaGreat
