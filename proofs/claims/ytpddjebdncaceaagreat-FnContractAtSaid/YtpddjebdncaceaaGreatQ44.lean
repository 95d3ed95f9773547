/-
  PlW, PlAE, PlY, StepS, VarsP, PlAB, PlAC, TextB.
-/
import Derived.Test.YtpddjebdncaceaaGreatQ03
import Derived.Test.YtpddjebdncaceaaGreatQ06
import Derived.Test.YtpddjebdncaceaaGreatQ10
import Derived.Test.YtpddjebdncaceaaGreatQ15
import Derived.Test.YtpddjebdncaceaaGreatQ16
import Derived.Test.YtpddjebdncaceaaGreatQ20
import Derived.Test.YtpddjebdncaceaaGreatQ21
import Derived.Test.YtpddjebdncaceaaGreatQ22
import Derived.Test.YtpddjebdncaceaaGreatQ24
import Derived.Test.YtpddjebdncaceaaGreatQ29
import Derived.Test.YtpddjebdncaceaaGreatQ30
import Derived.Test.YtpddjebdncaceaaGreatQ34
import Derived.Test.YtpddjebdncaceaaGreatQ35
import Derived.Test.YtpddjebdncaceaaGreatQ36
import Derived.Test.YtpddjebdncaceaaGreatQ37
import Derived.Test.YtpddjebdncaceaaGreatQ38
import Derived.Test.YtpddjebdncaceaaGreatQ39
import Derived.Test.YtpddjebdncaceaaGreatQ40
import Derived.Test.YtpddjebdncaceaaGreatQ43
import Derived.ChangeAlike
import Derived.ControlIn
import Derived.Deep.DeepCutAuto
import Derived.IntWalk
import Derived.LoopIn
import Derived.LoopNIn
import Derived.OrdersIn
import Derived.OwnWalkIn
import Derived.RangeFuncBound
import Derived.RangeFuncCalls
import Derived.RangeFuncLeaves
import Derived.RangeFuncNested
import Derived.RegionTactic
import Derived.TacticsInMore
namespace Go.Proofs.YtpddjebdncaceaaGreat
open Go.RowKit
noncomputable def placesP (rd : Bool) (t : Tm) : List ((Int → Int) × Nat) := open Classical in if t.Valid then plcOf rd (t.nodesFrom []) else []
def LPost (w : World) (L : List ((Int → Int) × Nat)) (e : Ending) (w' : World) : Prop := Below w.heap.size w w' ∧ ∃ v, e = .returned v ∧ RowP w.heap.size L v w'
set_option maxRecDepth 100000 in
set_option maxHeartbeats 2000000 in
theorem placesOfS_any (t : Tm) (w : World) (v : Value) (h : TmIn w 0 t v) : Calls Tryz.prog 114 #[v] w (LPost w (placesP false t)) := by
 obtain ⟨s, rfl, hs⟩ := h
 obtain ⟨a, c, rfl⟩ := hs.form
 have HS := tuck hs
 have hb0 := below1 w (.cells #[I6 t.kind, I6 t.num, .slice a t.kids.length c] 34)
 have hv0 := VarAt.new w t.kind t.num (.slice a t.kids.length c)
 have HB0 := tuck hb0
 have HV0 := tuck hv0
 unfold placesP
 by_cases hv : t.Valid
 ·rw [if_pos hv]
  have HVS : Hid (∀ (W : World) (h : SlIn W 0 t.kids (.slice a t.kids.length c)), Calls Tryz.prog 32 #[.agg #[I6 t.kind, I6 t.num, .slice a t.kids.length c]] W (BoolPost W true)) := tuck fun W h => by
   have h2 := validS_any t W _ ⟨_, rfl, h⟩
   rwa [tr_of hv] at h2
  have HFIN : Hid (∀ w' e W, Below w.heap.size w W → PlPost w.heap.size ([] ++ plcOf false ((Tm.mk t.kind t.num t.kids).nodesFrom [])) (some W.heap.size) ((W.alloc (.cells #[] 28)).alloc (.cells #[] 3)) e w' → ∃ va vc n, e = .returned (.slice va n vc) ∧ LPost w (plcOf false (t.nodesFrom [])) e w') := tuck fun w' e W hW hp => by
   obtain ⟨h1, v, rfl, h2, -⟩ := hp
   obtain ⟨va, vc, rfl⟩ := h2.form
   rw [Tm.eta, List.nil_append] at *
   have h3 := bAfter hW (below2 W (.cells #[] 28) (.cells #[] 3))
   exact ⟨va, vc, _, rfl, h3.grown h1 h3.size (fun k hk => by cases hk; exact hW.size), _, rfl, h2⟩
  have hbn := valid_bounds hv
  have hh : hgts t.kids ≤ 100 := by have := hv.2.1; have := t.hgt_eq; omega
  have hsz : 1 + sizes t.kids ≤ 900 := by have := hbn.1; have := t.size_eq; omega
  have HVV := tuck (show (Tm.mk t.kind t.num t.kids).Valid by rw [Tm.eta]; exact hv)
  generalize LPost w (plcOf false (t.nodesFrom [])) = post at *
  clear hb0 hv0 hv hs hbn
  go_enter Tryz.func114, Tryz.ntmps114
  go_wp2_with fail
  refine (HVS.out _ (HS.out.below HB0.out)).mono ?_
  rintro e W1 ⟨rfl, hb1⟩
  obtain ⟨z0, a0, a1, a2, af⟩ := (HV0.out.below hb1).facts
  have HB1 := tuck (bAfter HB0.out hb1)
  clear hb1
  go_wp2_with fail
  have hz := HB1.out.size
  have hx1 : SlX W1 (fun _ => False) t.kids (.slice a t.kids.length c) := SlX.of_sl (HS.out.below HB1.out) (fun _ h => h.elim)
  refine (l8places_any w.heap.size false t.kids t.kind t.num [] [] _ (.slice (some ⟨W1.heap.size, 0, none⟩) 0 0) _ _ HVV.out (by simp; omega) (by simp; omega) ((RowP.made W1 w.heap.size hz).below (below1 _ _)) (Nat.le_trans hz (below2 W1 _ _).size) (hx1.to fun p u _ hc => ⟨fun h => by (have h4 : W1.heap.size = p.block := (by simpa [Value.ownBlock] using h)); have := World.block_lt_of_cell? W1 p hc; omega, ((below2 W1 _ _).cell (World.block_lt_of_cell? W1 p hc)).trans hc⟩) ⟨_, _, 0, 0, rfl, Nat.le_refl _, fun h => absurd h (by simp), fun i hi => absurd hi (by simp)⟩).mono ?_
  intro e w' hp
  obtain ⟨va, vc, n, rfl, hfin⟩ := HFIN.out _ _ _ HB1.out hp
  have HF := tuck hfin
  clear hp hfin hx1 hz
  go_wp2_with fail
  exact HF.out
 ·rw [if_neg hv]
  have HVS : Hid (∀ (W : World) (h : SlIn W 0 t.kids (.slice a t.kids.length c)), Calls Tryz.prog 32 #[.agg #[I6 t.kind, I6 t.num, .slice a t.kids.length c]] W (BoolPost W false)) := tuck fun W h => by
   have h2 := validS_any t W _ ⟨_, rfl, h⟩
   rwa [tr_not hv] at h2
  have HFIN : Hid (∀ W, Below w.heap.size w W → LPost w [] (.returned (.slice (some ⟨W.heap.size, 0, none⟩) 0 0)) (W.alloc (.cells #[] 28))) := tuck fun W hW => ⟨bAfter hW (below1 W _), _, rfl, RowP.made W _ hW.size⟩
  generalize LPost w [] = post at *
  clear hb0 hv0 hv hs
  go_enter Tryz.func114, Tryz.ntmps114
  go_wp2_with fail
  refine (HVS.out _ (HS.out.below HB0.out)).mono ?_
  rintro e W1 ⟨rfl, hb1⟩
  have HB1 := tuck (bAfter HB0.out hb1)
  clear hb1
  go_wp2_with fail
  exact HFIN.out _ HB1.out
set_option maxRecDepth 100000 in
set_option maxHeartbeats 2000000 in
theorem redexPlacesS_any (t : Tm) (w : World) (v : Value) (h : TmIn w 0 t v) : Calls Tryz.prog 27 #[v] w (LPost w (placesP true t)) := by
 obtain ⟨s, rfl, hs⟩ := h
 obtain ⟨a, c, rfl⟩ := hs.form
 have HS := tuck hs
 have hb0 := below1 w (.cells #[I6 t.kind, I6 t.num, .slice a t.kids.length c] 34)
 have hv0 := VarAt.new w t.kind t.num (.slice a t.kids.length c)
 have HB0 := tuck hb0
 have HV0 := tuck hv0
 unfold placesP
 by_cases hv : t.Valid
 ·rw [if_pos hv]
  have HVS : Hid (∀ (W : World) (h : SlIn W 0 t.kids (.slice a t.kids.length c)), Calls Tryz.prog 32 #[.agg #[I6 t.kind, I6 t.num, .slice a t.kids.length c]] W (BoolPost W true)) := tuck fun W h => by
   have h2 := validS_any t W _ ⟨_, rfl, h⟩
   rwa [tr_of hv] at h2
  have HFIN : Hid (∀ w' e W, Below w.heap.size w W → PlPost w.heap.size ([] ++ plcOf true ((Tm.mk t.kind t.num t.kids).nodesFrom [])) (some W.heap.size) ((W.alloc (.cells #[] 28)).alloc (.cells #[] 3)) e w' → ∃ va vc n, e = .returned (.slice va n vc) ∧ LPost w (plcOf true (t.nodesFrom [])) e w') := tuck fun w' e W hW hp => by
   obtain ⟨h1, v, rfl, h2, -⟩ := hp
   obtain ⟨va, vc, rfl⟩ := h2.form
   rw [Tm.eta, List.nil_append] at *
   have h3 := bAfter hW (below2 W (.cells #[] 28) (.cells #[] 3))
   exact ⟨va, vc, _, rfl, h3.grown h1 h3.size (fun k hk => by cases hk; exact hW.size), _, rfl, h2⟩
  have hbn := valid_bounds hv
  have hh : hgts t.kids ≤ 100 := by have := hv.2.1; have := t.hgt_eq; omega
  have hsz : 1 + sizes t.kids ≤ 900 := by have := hbn.1; have := t.size_eq; omega
  have HVV := tuck (show (Tm.mk t.kind t.num t.kids).Valid by rw [Tm.eta]; exact hv)
  generalize LPost w (plcOf true (t.nodesFrom [])) = post at *
  clear hb0 hv0 hv hs hbn
  go_enter Tryz.func27, Tryz.ntmps27
  go_wp2_with fail
  refine (HVS.out _ (HS.out.below HB0.out)).mono ?_
  rintro e W1 ⟨rfl, hb1⟩
  obtain ⟨z0, a0, a1, a2, af⟩ := (HV0.out.below hb1).facts
  have HB1 := tuck (bAfter HB0.out hb1)
  clear hb1
  go_wp2_with fail
  have hz := HB1.out.size
  have hx1 : SlX W1 (fun _ => False) t.kids (.slice a t.kids.length c) := SlX.of_sl (HS.out.below HB1.out) (fun _ h => h.elim)
  refine (l8places_any w.heap.size true t.kids t.kind t.num [] [] _ (.slice (some ⟨W1.heap.size, 0, none⟩) 0 0) _ _ HVV.out (by simp; omega) (by simp; omega) ((RowP.made W1 w.heap.size hz).below (below1 _ _)) (Nat.le_trans hz (below2 W1 _ _).size) (hx1.to fun p u _ hc => ⟨fun h => by (have h4 : W1.heap.size = p.block := (by simpa [Value.ownBlock] using h)); have := World.block_lt_of_cell? W1 p hc; omega, ((below2 W1 _ _).cell (World.block_lt_of_cell? W1 p hc)).trans hc⟩) ⟨_, _, 0, 0, rfl, Nat.le_refl _, fun h => absurd h (by simp), fun i hi => absurd hi (by simp)⟩).mono ?_
  intro e w' hp
  obtain ⟨va, vc, n, rfl, hfin⟩ := HFIN.out _ _ _ HB1.out hp
  have HF := tuck hfin
  clear hp hfin hx1 hz
  go_wp2_with fail
  exact HF.out
 ·rw [if_neg hv]
  have HVS : Hid (∀ (W : World) (h : SlIn W 0 t.kids (.slice a t.kids.length c)), Calls Tryz.prog 32 #[.agg #[I6 t.kind, I6 t.num, .slice a t.kids.length c]] W (BoolPost W false)) := tuck fun W h => by
   have h2 := validS_any t W _ ⟨_, rfl, h⟩
   rwa [tr_not hv] at h2
  have HFIN : Hid (∀ W, Below w.heap.size w W → LPost w [] (.returned (.slice (some ⟨W.heap.size, 0, none⟩) 0 0)) (W.alloc (.cells #[] 28))) := tuck fun W hW => ⟨bAfter hW (below1 W _), _, rfl, RowP.made W _ hW.size⟩
  generalize LPost w [] = post at *
  clear hb0 hv0 hv hs
  go_enter Tryz.func27, Tryz.ntmps27
  go_wp2_with fail
  refine (HVS.out _ (HS.out.below HB0.out)).mono ?_
  rintro e W1 ⟨rfl, hb1⟩
  have HB1 := tuck (bAfter HB0.out hb1)
  clear hb1
  go_wp2_with fail
  exact HFIN.out _ HB1.out
end Go.Proofs.YtpddjebdncaceaaGreat
namespace Go.Proofs.YtpddjebdncaceaaGreat
open Go.RowKit
theorem RowP.base {base b' : Nat} {L : List ((Int → Int) × Nat)} {v : Value} {w : World} (h : RowP base L v w) (hb : b' ≤ base) : RowP b' L v w := by
 obtain ⟨vs, h1, h2, h3⟩ := h
 exact ⟨vs, h1, ⟨h2.1, h2.2.imp id (fun ⟨g, cap, cur, e, hb2, rest⟩ => ⟨g, cap, cur, e, Nat.le_trans hb hb2, rest⟩)⟩, fun j hj => by
  obtain ⟨u, k1, k2, k3⟩ := h3 j hj
  exact ⟨u, k1, k2.to fun b hx hbw => ⟨fun h => hx (h.imp id fun h => Nat.lt_of_lt_of_le h hb), hbw, fun _ => rfl⟩, k3⟩⟩
end Go.Proofs.YtpddjebdncaceaaGreat
namespace Go.Proofs.YtpddjebdncaceaaGreat
open Go.RowKit
set_option linter.unusedVariables false
set_option linter.unusedSimpArgs false
def tot : List ((Int → Int) × Nat) → Nat
 | [] => 0
 | (_, n) :: L => n + tot L
theorem tot_bound (m : Nat) : ∀ (L : List ((Int → Int) × Nat)), (∀ x ∈ L, x.2 ≤ m) → tot L ≤ L.length * m
 | [], _ => by simp [tot]
 | (N, n) :: L, h => by
  have h1 := tot_bound m L (fun x hx => h x (List.mem_cons_of_mem _ hx))
  have h2 : n ≤ m := h (N, n) (by simp)
  rw [tot, List.length_cons, Nat.add_mul]
  omega
theorem RowP.get {base : Nat} {L : List ((Int → Int) × Nat)} {v : Value} {w : World} (h : RowP base L v w) : ∃ a cap g, v = .slice a L.length cap ∧ ∀ j (hj : j < L.length), a = some ⟨g, 0, none⟩ ∧ base ≤ g ∧ g < w.heap.size ∧ ∃ ua uc, w.cell? ⟨g, j, none⟩ = some (.slice ua L[j].2 uc) ∧ IsX w (fun i => g = i ∨ i < base) L[j].1 L[j].2 (.slice ua L[j].2 uc) ∧ Sm (.slice ua L[j].2 uc) := by
 obtain ⟨vs, h1, h2, h3⟩ := h
 have hrow := h2
 rcases h2.2 with ⟨rfl, h0⟩ | ⟨g, cap, cur, rfl, hb, hg, -⟩
 ·exact ⟨none, 0, 0, by rw [h0], fun j hj => absurd hj (by omega)⟩
 ·refine ⟨_, cap, g, rfl, fun j hj => ⟨rfl, hb, (block_of_cells hg).1, ?_⟩⟩
  obtain ⟨u, k1, k2, k3⟩ := h3 j hj
  obtain ⟨ua, uc, rfl⟩ := k2.form
  have hc := hrow.cells (g := g) rfl j _ k1
  have hadd : (⟨g, 0, none⟩ : Addr).add j = ⟨g, j, none⟩ := by unfold Addr.add; split <;> simp_all
  rw [hadd] at hc
  refine ⟨ua, uc, hc, k2.to fun b hx hbw => ⟨fun e => hx (e.imp (fun e => by rw [e]; rfl) id), hbw, fun _ => rfl⟩, k3⟩
end Go.Proofs.YtpddjebdncaceaaGreat
namespace Go.Proofs.YtpddjebdncaceaaGreat
open Go.RowKit
theorem placesP_small (rd : Bool) (t : Tm) : tot (placesP rd t) ≤ 1000000 ∧ (placesP rd t).length ≤ 1048576 ∧ ∀ x ∈ placesP rd t, x.2 ≤ 1048576 := by
 unfold placesP
 by_cases hv : t.Valid
 ·rw [if_pos hv]
  have hx : ∀ x ∈ plcOf rd (t.nodesFrom []), x.2 ≤ 1000 := fun x hx => by
   simp only [plcOf, List.mem_map, List.mem_filter] at hx
   obtain ⟨y, ⟨hy, -⟩, rfl⟩ := hx
   have := (hv.nodes y hy).short hv
   show y.1.length ≤ 1000
   omega
  have hl : (plcOf rd (t.nodesFrom [])).length ≤ 400 := by
   unfold plcOf
   rw [List.length_map]
   refine Nat.le_trans (List.length_filter_le _ _) ?_
   rw [t.nodes_len []]
   have := (valid_bounds hv).1
   have := t.size_eq
   omega
  refine ⟨Nat.le_trans (tot_bound 1000 _ hx) (Nat.le_trans (Nat.mul_le_mul_right _ hl) (by decide)), Nat.le_trans hl (by decide), fun x h => Nat.le_trans (hx x h) (by decide)⟩
 ·rw [if_neg hv]
  exact ⟨by simp [tot], by simp, fun x h => by cases h⟩
theorem placesP_len (rd : Bool) (t : Tm) : (placesP rd t).length ≤ 1000 := by
 unfold placesP
 by_cases hv : t.Valid
 ·rw [if_pos hv]
  unfold plcOf
  rw [List.length_map]
  refine Nat.le_trans (List.length_filter_le _ _) ?_
  rw [t.nodes_len []]
  have := (valid_bounds hv).1
  have := t.size_eq
  omega
 ·rw [if_neg hv]
  simp
end Go.Proofs.YtpddjebdncaceaaGreat
namespace Go.Proofs.YtpddjebdncaceaaGreat
open Go.RowKit
def sumS : List ByteArray → Nat
 | [] => 0
 | s :: L => s.size + sumS L
theorem kidS_le : ∀ (L : List ByteArray) (i : Nat), (kidS L i).size ≤ sumS L
 | [], i => by simp [kidS, ByteArray.size]
 | s :: L, 0 => by rw [sumS]; show s.size ≤ _; omega
 | s :: L, i + 1 => by
  have := kidS_le L i
  rw [sumS]
  show (kidS L i).size ≤ _
  omega
theorem kidS_two : ∀ (L : List ByteArray), (kidS L 0).size + (kidS L 1).size ≤ sumS L
 | [] => by simp [kidS, ByteArray.size]
 | [s] => by rw [sumS, sumS]; show s.size + (ByteArray.mk #[]).size ≤ _; have : (ByteArray.mk #[]).size = 0 := rfl; omega
 | s :: t :: L => by rw [sumS, sumS]; show s.size + t.size ≤ _; omega
theorem sumS_take : ∀ (L : List ByteArray) (q : Nat), sumS (L.take (q + 1)) = sumS (L.take q) + (kidS L q).size
 | [], q => by simp [kidS, sumS, ByteArray.size]
 | s :: L, 0 => by simp [sumS]; rfl
 | s :: L, q + 1 => by
  have := sumS_take L q
  rw [List.take_succ_cons, List.take_succ_cons, sumS, sumS, this]
  show _ = s.size + _ + (kidS L q).size
  omega
theorem sumS_take_le : ∀ (L : List ByteArray) (q : Nat), sumS (L.take q) ≤ sumS L
 | [], q => by simp
 | s :: L, 0 => by simp [sumS]
 | s :: L, q + 1 => by
  have := sumS_take_le L q
  rw [List.take_succ_cons, sumS, sumS]
  omega
theorem joinN_le (L : List ByteArray) : ∀ q, (joinN L q).size ≤ sumS (L.take q) + q
 | 0 => by rw [joinN]; simp [ByteArray.size]
 | q + 1 => by
  have h1 := joinN_le L q
  have h2 := sumS_take L q
  have h3 : (ByteArray.mk #[44]).size = 1 := rfl
  rw [joinN]
  split <;> simp only [ByteArray.size_append, h3] <;> omega
theorem ite_le_of (c : Prop) [Decidable c] (a b m : Nat) (h1 : a ≤ m) (h2 : b ≤ m) : (if c then a else b) ≤ m := by split <;> assumption
mutual
theorem Tm.txt_size : ∀ t : Tm, t.txt.size ≤ 8 * t.size
 | .mk k n l => by
  have hs := txtL_sum l
  have h0 := kidS_le (txtL l) 0
  have h1 := kidS_two (txtL l)
  have h3 := joinN_le (txtL l) 3
  have h4 := joinN_le (txtL l) 4
  have h5 := sumS_take_le (txtL l) 3
  have h6 := sumS_take_le (txtL l) 4
  have h2 := decS_size n.toNat
  have e1 : ∀ a : UInt8, (ByteArray.mk #[a]).size = 1 := fun _ => rfl
  have e2 : ∀ a b : UInt8, (ByteArray.mk #[a, b]).size = 2 := fun _ _ => rfl
  rw [Tm.txt, Tm.size]
  simp only [txtOf, apply_ite ByteArray.size, ByteArray.size_append, e1, e2]
  repeat' (first | refine ite_le_of _ _ _ _ ?_ ?_ | omega)
theorem txtL_sum : ∀ l : List Tm, sumS (txtL l) ≤ 8 * sizes l
 | [] => by rw [txtL, sumS]; omega
 | t :: l => by
  have h1 := Tm.txt_size t
  have h2 := txtL_sum l
  rw [txtL, sumS, sizes]
  omega
end
set_option maxRecDepth 100000 in
set_option maxHeartbeats 1600000 in
theorem list_any (l : List Tm) (hl : l.length ≤ 4) (hsz : sizes l ≤ 1000000)
  (hrec : ∀ i (hi : i < l.length) (w' : World) (s : Value), SlIn w' 0 l[i].kids s → Calls Tryz.prog 143 #[.agg #[I6 l[i].kind, I6 l[i].num, s]] w' (StrPost w' l[i].txt))
  (w : World) (v : Value) (hs : SlIn w 0 l v) : Calls Tryz.prog 149 #[v] w (StrPost w (joinN (txtL l) l.length)) := by
 obtain ⟨a, cap, b, o, rfl, hlm, hp, hc⟩ := hs.open
 have HREC := tuck hrec
 have HC := tuck hc
 have HPP := tuck hp
 have HP : Hid (∀ s w', s = joinN (txtL l) l.length → Below w.heap.size w w' → StrPost w (joinN (txtL l) l.length) (.returned (.string s)) w') := tuck fun s w' h hb => by rw [h]; exact ⟨rfl, hb⟩
 generalize StrPost w (joinN (txtL l) l.length) = post at *
 have HSUM := tuck (txtL_sum l)
 have HSZ := tuck hsz
 clear hs hrec hc hp hsz
 go_enter Tryz.func149, Tryz.ntmps149
 go_wp2_with fail
 go_loopw [3, 4] (fun out i wr => ∃ q : Nat, q ≤ l.length ∧ i = I6 q ∧ out = .string (joinN (txtL l) q) ∧ Below w.heap.size w wr) (fun _ i _ => l.length - (intOf i).toNat)
 case atStart => exact ⟨0, Nat.zero_le _, rfl, rfl, Below.refl _ _⟩
 case round =>
  obtain ⟨q, hq, rfl, rfl, hb⟩ := hrel
  have HB := tuck hb
  clear hb
  by_cases hlt : q < l.length
  ·have hlti : decide ((q : Int) < (l.length : Int)) = true := decide_eq_true (by omega)
   have hlti2 : (q : Int) < (l.length : Int) := by omega
   obtain ⟨rfl, _, hbw⟩ := HPP.out (by intro e; rw [e] at hlt; simp at hlt)
   obtain ⟨s, c0, c1, c2, hs⟩ := HC.out q hlt
   obtain ⟨sa, sc, rfl⟩ := hs.form
   have hjs : (joinN (txtL l) q).size ≤ 8000100 := by
    have h1 := joinN_le (txtL l) q
    have h2 := sumS_take_le (txtL l) q
    have h3 := HSUM.out
    have h4 := HSZ.out
    omega
   have hts : l[q].txt.size ≤ 8000100 := by
    have h1 := l[q].txt_size
    have h2 := size_get_le l q hlt
    have h4 := HSZ.out
    omega
   have HJ : Hid (joinN (txtL l) (q + 1) = (if 0 < q then joinN (txtL l) q ++ ByteArray.mk #[44] else joinN (txtL l) q) ++ l[q].txt) := tuck (by rw [joinN, kidS_txt l q hlt])
   have HK := tuck (fun w' s => HREC.out q hlt w' s)
   have HS := tuck hs
   have hbr : b < wr.heap.size := Nat.lt_of_lt_of_le hbw HB.out.size
   replace c0 := (HB.out.cell (p := ⟨b, o + q * 3, none⟩) hbw).trans c0
   replace c1 := (HB.out.cell (p := ⟨b, o + q * 3 + 1, none⟩) hbw).trans c1
   replace c2 := (HB.out.cell (p := ⟨b, o + q * 3 + 2, none⟩) hbw).trans c2
   clear hs
   generalize l[q] = T at *
   obtain ⟨J, hJ⟩ : ∃ J, J = joinN (txtL l) q := ⟨_, rfl⟩
   obtain ⟨X, hX⟩ : ∃ X, X = T.txt := ⟨_, rfl⟩
   rw [← hJ] at HJ hjs ⊢
   rw [← hX] at HJ HK hts
   clear hJ hX
   have z1 : ¬ (9223372036854775807 < J.size + 1) := by omega
   have z2 : ¬ (9223372036854775807 < J.size + 1 + X.size) := by omega
   have z3 : ¬ (9223372036854775807 < J.size + X.size) := by omega
   clear hjs hts
   by_cases hq0 : 0 < q
   ·have hq0i : decide ((0 : Int) < (q : Int)) = true := decide_eq_true (by omega)
    have HJJ : Hid (joinN (txtL l) (q + 1) = J ++ ByteArray.mk #[44] ++ X) := tuck (by rw [HJ.out, if_pos hq0])
    clear HJ
    go_wp2_with fail
    refine (HK.out _ _ (HS.out.below HB.out)).mono ?_
    rintro e w2 ⟨rfl, hb2⟩
    have HB2 := tuck (bAfter HB.out hb2)
    clear hb2
    go_wp2_with fail
    go_roundw
    case rel => exact ⟨q + 1, by omega, by go_num, by rw [HJJ.out], HB2.out⟩
    case measure => simp [intOf]; omega
   ·have hq0i : decide ((0 : Int) < (q : Int)) = false := decide_eq_false (by omega)
    have HJJ : Hid (joinN (txtL l) (q + 1) = J ++ X) := tuck (by rw [HJ.out, if_neg hq0])
    clear HJ
    go_wp2_with fail
    refine (HK.out _ _ (HS.out.below HB.out)).mono ?_
    rintro e w2 ⟨rfl, hb2⟩
    have HB2 := tuck (bAfter HB.out hb2)
    clear hb2
    go_wp2_with fail
    go_roundw
    case rel => exact ⟨q + 1, by omega, by go_num, by rw [HJJ.out], HB2.out⟩
    case measure => simp [intOf]; omega
  ·have hlti : decide ((q : Int) < (l.length : Int)) = false := decide_eq_false (by omega)
   have hlti2 : ¬ (q : Int) < (l.length : Int) := by omega
   obtain rfl : q = l.length := by omega
   go_wp2_with fail
   exact HP.out _ _ rfl HB.out
end Go.Proofs.YtpddjebdncaceaaGreat
namespace Go.Proofs.YtpddjebdncaceaaGreat
open Go.RowKit
theorem TlRes.pair8 {w w' : World} {P : Prop} {T : Tm} {e : Ending} (h : TlRes w P T e w') : PairPost w (orZero P T) (tr P) e w' := by
 obtain ⟨hb, a, c, rfl, hs⟩ := h
 exact ⟨hb, _, rfl, _, rfl, hs.mono (Nat.zero_le _)⟩
end Go.Proofs.YtpddjebdncaceaaGreat
namespace Go.Proofs.YtpddjebdncaceaaGreat
theorem parL_set : ∀ (l : List Tm) (i : Nat) (h : i < l.length) (z : Tm), l[i].par z → parL l (l.set i z)
 | [], i, h, z, _ => by simp at h
 | t :: l, 0, h, z, hz => by
  rw [List.set_cons_zero, parL]
  exact ⟨z, l, rfl, hz, parL_refl l⟩
 | t :: l, i + 1, h, z, hz => by
  rw [List.set_cons_succ, parL]
  exact ⟨t, _, rfl, t.par_refl, parL_set l i (by simpa using h) z hz⟩
theorem contr_one {x : Tm} (h : x.redex ≠ 0) : x.par x.contr := by
 obtain ⟨k, n, l⟩ := x
 rw [Tm.par]
 exact ⟨l, parL_refl l, Or.inr ⟨h, rfl⟩⟩
theorem chain_par : ∀ (p : List (Tm × Nat)) (t x z : Tm), Chain t p x → x.par z → t.par (around p z)
 | [], t, x, z, h, hz => by
  have e : t = x := h
  subst e
  exact hz
 | (a, i) :: p, t, x, z, h, hz => by
  obtain ⟨rfl, hi, hc⟩ := h
  have h1 := chain_par p (kidT a i) x z hc hz
  rw [kidT_eq hi] at h1
  obtain ⟨k, n, l⟩ := a
  rw [around, Tm.par]
  exact ⟨_, parL_set l i hi _ h1, Or.inl rfl⟩
theorem contrAt_par {t : Tm} {N : Int → Int} {n : Nat} (h : IsPlace t N n) (hr : (wayT t N n).redex ≠ 0) : t.par (around (wayP t N n) (wayT t N n).contr) :=
 chain_par _ _ _ _ h.ok.chain (contr_one hr)
end Go.Proofs.YtpddjebdncaceaaGreat
namespace Go.Proofs.YtpddjebdncaceaaGreat
open Go.RowKit
def SCodePost (w : World) (c : Int) (T : Tm) (e : Ending) (w' : World) : Prop := Below w.heap.size w w' ∧ ∃ v, e = .returned (.tuple #[v, I6 c]) ∧ TmIn w' 0 T v
end Go.Proofs.YtpddjebdncaceaaGreat
