/-
  PlW.
-/
import Derived.Test.YtpddjebdncaceaaGreatR32
namespace Go.Proofs.YtpddjebdncaceaaGreat
open Go.RowKit
noncomputable def placesP (rd : Bool) (t : Tm) : List ((Int → Int) × Nat) := open Classical in if t.Valid then plcOf rd (t.nodesFrom []) else []
def LPost (w : World) (L : List ((Int → Int) × Nat)) (e : Ending) (w' : World) : Prop := Below w.heap.size w w' ∧ ∃ v, e = .returned v ∧ RowP w.heap.size L v w'
set_option maxRecDepth 100000 in
set_option maxHeartbeats 2000000 in
theorem redexPlacesS_any (t : Tm) (w : World) (v : Value) (h : TmIn w 0 t v) : Calls Tryz.prog 27 #[v] w (LPost w (placesP true t)) := by
 obtain ⟨s, rfl, hs⟩ := h
 obtain ⟨a, c, rfl⟩ := hs.form
 have HS := tuck hs
 have hb0 := below1 w (.cells #[.int .i64 t.kind, .int .i64 t.num, .slice a t.kids.length c] 34)
 have hv0 := VarAt.new w t.kind t.num (.slice a t.kids.length c)
 have HB0 := tuck hb0
 have HV0 := tuck hv0
 unfold placesP
 by_cases hv : t.Valid
 ·rw [if_pos hv]
  have HVS : Hid (∀ (W : World) (h : SlIn W 0 t.kids (.slice a t.kids.length c)), Calls Tryz.prog 32 #[.agg #[.int .i64 t.kind, .int .i64 t.num, .slice a t.kids.length c]] W (BoolPost W true)) := tuck fun W h => by
   have h2 := validS_any t W _ ⟨_, rfl, h⟩
   rwa [tr_of hv] at h2
  have HFIN : Hid (∀ w' e W, Below w.heap.size w W → PlPost w.heap.size ([] ++ plcOf true ((Tm.mk t.kind t.num t.kids).nodesFrom [])) (some W.heap.size) ((W.alloc (.cells #[] 28)).alloc (.cells #[] 3)) e w' → ∃ va vc n, e = .returned (.slice va n vc) ∧ LPost w (plcOf true (t.nodesFrom [])) e w') := tuck fun w' e W hW hp => by
   obtain ⟨h1, v, rfl, h2, -⟩ := hp
   obtain ⟨va, vc, rfl⟩ := h2.form
   rw [Tm.eta, List.nil_append] at *
   have h3 := bAfter hW (below2 W (.cells #[] 28) (.cells #[] 3))
   exact ⟨va, vc, _, rfl, h3.grown h1 h3.size (fun k hk => by cases hk; exact hW.size), _, rfl, h2⟩
  have hbn := valid_bounds hv
  have hh : hgts t.kids ≤ 100 := by have := hv.2.1; have := t.hgt_eq; omega
  have hsz : 1 + sizes t.kids ≤ 900 := by have := hbn.1; have := t.size_eq; omega
  have HVV := tuck (show (Tm.mk t.kind t.num t.kids).Valid by rw [Tm.eta]; exact hv)
  generalize LPost w (plcOf true (t.nodesFrom [])) = post at *
  clear hb0 hv0 hv hs hbn
  go_enter Tryz.func27, Tryz.ntmps27
  go_wp2_with fail
  refine (HVS.out _ (HS.out.below HB0.out)).mono ?_
  rintro e W1 ⟨rfl, hb1⟩
  obtain ⟨z0, a0, a1, a2, af⟩ := (HV0.out.below hb1).facts
  have HB1 := tuck (bAfter HB0.out hb1)
  clear hb1
  go_wp2_with fail
  have hz := HB1.out.size
  have hx1 : SlX W1 (fun _ => False) t.kids (.slice a t.kids.length c) := SlX.of_sl (HS.out.below HB1.out) (fun _ h => h.elim)
  refine (l8places_any w.heap.size true t.kids t.kind t.num [] [] _ (.slice (some ⟨W1.heap.size, 0, none⟩) 0 0) _ _ HVV.out (by simp; omega) (by simp; omega) ((RowP.made W1 w.heap.size hz).below (below1 _ _)) (Nat.le_trans hz (below2 W1 _ _).size) (hx1.to fun p u _ hc => ⟨fun h => by (have h4 : W1.heap.size = p.block := (by simpa [Value.ownBlock] using h)); have := World.block_lt_of_cell? W1 p hc; omega, ((below2 W1 _ _).cell (World.block_lt_of_cell? W1 p hc)).trans hc⟩) ⟨_, _, 0, 0, rfl, Nat.le_refl _, fun h => absurd h (by simp), fun i hi => absurd hi (by simp)⟩).mono ?_
  intro e w' hp
  obtain ⟨va, vc, n, rfl, hfin⟩ := HFIN.out _ _ _ HB1.out hp
  have HF := tuck hfin
  clear hp hfin hx1 hz
  go_wp2_with fail
  exact HF.out
 ·rw [if_neg hv]
  have HVS : Hid (∀ (W : World) (h : SlIn W 0 t.kids (.slice a t.kids.length c)), Calls Tryz.prog 32 #[.agg #[.int .i64 t.kind, .int .i64 t.num, .slice a t.kids.length c]] W (BoolPost W false)) := tuck fun W h => by
   have h2 := validS_any t W _ ⟨_, rfl, h⟩
   rwa [tr_not hv] at h2
  have HFIN : Hid (∀ W, Below w.heap.size w W → LPost w [] (.returned (.slice (some ⟨W.heap.size, 0, none⟩) 0 0)) (W.alloc (.cells #[] 28))) := tuck fun W hW => ⟨bAfter hW (below1 W _), _, rfl, RowP.made W _ hW.size⟩
  generalize LPost w [] = post at *
  clear hb0 hv0 hv hs
  go_enter Tryz.func27, Tryz.ntmps27
  go_wp2_with fail
  refine (HVS.out _ (HS.out.below HB0.out)).mono ?_
  rintro e W1 ⟨rfl, hb1⟩
  have HB1 := tuck (bAfter HB0.out hb1)
  clear hb1
  go_wp2_with fail
  exact HFIN.out _ HB1.out
end Go.Proofs.YtpddjebdncaceaaGreat
