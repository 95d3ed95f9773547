/-
  PlP, RedN.
-/
import Derived.Test.YtihlbbbajaepoaaGreatQ09
import Derived.Test.YtihlbbbajaepoaaGreatQ12
import Derived.Test.YtihlbbbajaepoaaGreatQ15
import Derived.Test.YtihlbbbajaepoaaGreatQ23
import Derived.IntWalk
namespace Go.Proofs.YtihlbbbajaepoaaGreat
mutual
def Tm.nodesFrom : Tm → List (Tm × Nat) → List (List (Tm × Nat) × Tm)
 | .mk k n l, p => (p, .mk k n l) :: kidsFrom (.mk k n l) l 0 p
def kidsFrom : Tm → List Tm → Nat → List (Tm × Nat) → List (List (Tm × Nat) × Tm)
 | _, [], _, _ => []
 | t0, t :: l, i, p => t.nodesFrom (p ++ [(t0, i)]) ++ kidsFrom t0 l (i + 1) p
end
def climbR : List (Tm × Nat) → Option (List (Tm × Nat) × Tm)
 | [] => none
 | (y, i) :: r => if i + 1 < y.kids.length then some (r.reverse ++ [(y, i + 1)], kidT y (i + 1)) else climbR r
def climb (p : List (Tm × Nat)) : Option (List (Tm × Nat) × Tm) := climbR p.reverse
theorem climb_nil : climb [] = none := rfl
theorem climb_snoc (p : List (Tm × Nat)) (y : Tm) (i : Nat) : climb (p ++ [(y, i)]) = if i + 1 < y.kids.length then some (p ++ [(y, i + 1)], kidT y (i + 1)) else climb p := by
 unfold climb
 rw [List.reverse_append]
 simp only [List.reverse_cons, List.reverse_nil, List.nil_append, List.cons_append, climbR, List.reverse_reverse]
def nextAt (y : List (Tm × Nat) × Tm) : Option (List (Tm × Nat) × Tm) := if 0 < y.2.kids.length then some (y.1 ++ [(y.2, 0)], kidT y.2 0) else climb y.1
def RunsTo : List (List (Tm × Nat) × Tm) → Option (List (Tm × Nat) × Tm) → Prop
 | [], _ => False
 | [a], e => nextAt a = e
 | a :: b :: l, e => nextAt a = some b ∧ RunsTo (b :: l) e
theorem RunsTo.append {b : List (Tm × Nat) × Tm} {B : List (List (Tm × Nat) × Tm)} {e : Option (List (Tm × Nat) × Tm)} (hB : RunsTo (b :: B) e) : ∀ {A : List (List (Tm × Nat) × Tm)}, RunsTo A (some b) → RunsTo (A ++ b :: B) e
 | [], h => h.elim
 | [_], h => ⟨h, hB⟩
 | _ :: a :: A, h => ⟨h.1, RunsTo.append hB (A := a :: A) h.2⟩
theorem RunsTo.get {e : Option (List (Tm × Nat) × Tm)} : ∀ {L : List (List (Tm × Nat) × Tm)}, RunsTo L e → ∀ k (h : k + 1 < L.length), nextAt (L[k]'(by omega)) = some L[k + 1]
 | [], h, _, _ => h.elim
 | [_], _, k, h => by simp at h
 | _ :: _ :: _, h, 0, _ => h.1
 | _ :: b :: l, h, k + 1, hk => by
  have := RunsTo.get (L := b :: l) h.2 k (by simpa using hk)
  simpa using this
theorem RunsTo.last {e : Option (List (Tm × Nat) × Tm)} : ∀ {L : List (List (Tm × Nat) × Tm)}, RunsTo L e → ∀ k (h : k < L.length), k + 1 = L.length → nextAt L[k] = e
 | [], h, _, _, _ => h.elim
 | [_], h, 0, _, _ => h
 | [_], _, k + 1, hk, _ => by simp at hk
 | _ :: _ :: _, _, 0, _, he => by simp at he
 | _ :: b :: l, h, k + 1, hk, he => by
  have := RunsTo.last (L := b :: l) h.2 k (by simpa using hk) (by simpa using he)
  simpa using this
theorem nodesFrom_head (t : Tm) (p : List (Tm × Nat)) : ∃ l, t.nodesFrom p = (p, t) :: l := by
 obtain ⟨k, n, l⟩ := t
 exact ⟨_, by rw [Tm.nodesFrom]⟩
mutual
theorem Tm.nodes_run : ∀ (t : Tm) (p : List (Tm × Nat)), RunsTo (t.nodesFrom p) (climb p)
 | .mk k n l, p => by
  rw [Tm.nodesFrom]
  cases l with
  | nil =>
   rw [kidsFrom]
   show nextAt _ = _
   unfold nextAt
   rw [if_neg (by simp [Tm.kids])]
  | cons x l =>
   obtain ⟨h1, y, L, h2, h3⟩ := kids_run (.mk k n (x :: l)) (x :: l) 0 p (by simp [Tm.kids]) (by simp)
   rw [h2] at h1 ⊢
   refine ⟨?_, h1⟩
   unfold nextAt
   rw [if_pos (by simp [Tm.kids]), h3]
theorem kids_run : ∀ (t0 : Tm) (l : List Tm) (i : Nat) (p : List (Tm × Nat)), t0.kids.drop i = l → l ≠ [] → RunsTo (kidsFrom t0 l i p) (climb p) ∧ ∃ y L, kidsFrom t0 l i p = y :: L ∧ y = (p ++ [(t0, i)], kidT t0 i)
 | _, [], _, _, _, h => absurd rfl h
 | t0, t :: l, i, p, hd, _ => by
  have hi : i < t0.kids.length := by
   rcases Nat.lt_or_ge i t0.kids.length with h | h
   ·exact h
   ·rw [List.drop_eq_nil_of_le h] at hd; cases hd
  have hdd := List.drop_eq_getElem_cons hi
  rw [hd] at hdd
  obtain ⟨ht, hl⟩ := List.cons.inj hdd
  have hk : kidT t0 i = t := by rw [kidT_eq hi, ht]
  have h1 := t.nodes_run (p ++ [(t0, i)])
  rw [climb_snoc] at h1
  obtain ⟨L, hL⟩ := nodesFrom_head t (p ++ [(t0, i)])
  rw [kidsFrom]
  refine ⟨?_, (p ++ [(t0, i)], t), L ++ kidsFrom t0 l (i + 1) p, by rw [hL]; rfl, by rw [hk]⟩
  cases l with
  | nil =>
   rw [kidsFrom, List.append_nil]
   have : ¬ i + 1 < t0.kids.length := by
    intro h
    have h2 : (t0.kids.drop (i + 1)).length = 0 := by rw [← hl]; rfl
    rw [List.length_drop] at h2
    omega
   rw [if_neg this] at h1
   exact h1
  | cons x l =>
   obtain ⟨k1, y, M, k2, k3⟩ := kids_run t0 (x :: l) (i + 1) p hl.symm (by simp)
   have : i + 1 < t0.kids.length := by
    have h2 : 0 < (t0.kids.drop (i + 1)).length := by rw [← hl]; simp
    rw [List.length_drop] at h2
    omega
   rw [if_pos this, ← k3] at h1
   rw [k2] at k1 ⊢
   exact RunsTo.append k1 h1
end
mutual
theorem Tm.nodes_len : ∀ (t : Tm) (p : List (Tm × Nat)), (t.nodesFrom p).length = t.size
 | .mk k n l, p => by
  rw [Tm.nodesFrom, List.length_cons, kids_len (.mk k n l) l 0 p, Tm.size]
  omega
theorem kids_len : ∀ (t0 : Tm) (l : List Tm) (i : Nat) (p : List (Tm × Nat)), (kidsFrom t0 l i p).length = sizes l
 | _, [], _, _ => by rw [kidsFrom, sizes]; rfl
 | t0, t :: l, i, p => by
  rw [kidsFrom, List.length_append, t.nodes_len, kids_len t0 l (i + 1) p, sizes]
end
def NodeOk (H : Nat) (y : List (Tm × Nat) × Tm) : Prop := y.2.Valid ∧ InPath y.1 ∧ (∀ z ∈ y.1, z.1.Valid) ∧ hgts y.2.kids + y.1.length ≤ H
theorem NodeOk.kid {H : Nat} {p : List (Tm × Nat)} {t : Tm} (h : NodeOk H (p, t)) {i : Nat} (hi : i < t.kids.length) : NodeOk H (p ++ [(t, i)], kidT t i) := by
 obtain ⟨h1, h2, h3, h4⟩ := h
 refine ⟨h1.kidT hi, inPath_snoc h2 hi, fun z hz => ?_, ?_⟩
 ·rcases List.mem_append.1 hz with hz | hz
  ·exact h3 z hz
  ·rw [List.mem_singleton.1 hz]; exact h1
 ·have k1 := mem_hgts hi
  have k2 := (t.kids[i]).hgt_eq
  show hgts (kidT t i).kids + (p ++ [(t, i)]).length ≤ H
  rw [kidT_eq hi, List.length_append, List.length_singleton]
  show hgts t.kids[i].kids + (p.length + 1) ≤ H
  have h4' : hgts t.kids + p.length ≤ H := h4
  omega
mutual
theorem Tm.nodes_ok {H : Nat} : ∀ (t : Tm) (p : List (Tm × Nat)), NodeOk H (p, t) → ∀ y ∈ t.nodesFrom p, NodeOk H y
 | .mk k n l, p, h, y, hy => by
  rw [Tm.nodesFrom] at hy
  rcases List.mem_cons.1 hy with rfl | hy
  ·exact h
  ·exact kids_ok (.mk k n l) l 0 p (by simp [Tm.kids]) h y hy
theorem kids_ok {H : Nat} : ∀ (t0 : Tm) (l : List Tm) (i : Nat) (p : List (Tm × Nat)), t0.kids.drop i = l → NodeOk H (p, t0) → ∀ y ∈ kidsFrom t0 l i p, NodeOk H y
 | _, [], _, _, _, _, y, hy => by rw [kidsFrom] at hy; cases hy
 | t0, t :: l, i, p, hd, h, y, hy => by
  have hi : i < t0.kids.length := by
   rcases Nat.lt_or_ge i t0.kids.length with h | h
   ·exact h
   ·rw [List.drop_eq_nil_of_le h] at hd; cases hd
  have hdd := List.drop_eq_getElem_cons hi
  rw [hd] at hdd
  obtain ⟨ht, hl⟩ := List.cons.inj hdd
  have hk : kidT t0 i = t := by rw [kidT_eq hi, ht]
  rw [kidsFrom] at hy
  rcases List.mem_append.1 hy with hy | hy
  ·exact t.nodes_ok (p ++ [(t0, i)]) (hk ▸ h.kid hi) y hy
  ·exact kids_ok t0 l (i + 1) p hl.symm h y hy
end
theorem Tm.Valid.nodes {t : Tm} (h : t.Valid) : ∀ y ∈ t.nodesFrom [], NodeOk (hgts t.kids) y := t.nodes_ok [] ⟨h, trivial, fun z hz => (by cases hz), Nat.le_refl _⟩
theorem NodeOk.short {t : Tm} {y : List (Tm × Nat) × Tm} (h : NodeOk (hgts t.kids) y) (hv : t.Valid) : y.1.length ≤ 29 := by
 have h1 := h.2.2.2
 have h2 := t.hgt_eq
 have h3 := hv.2.1
 omega
end Go.Proofs.YtihlbbbajaepoaaGreat
namespace Go.Proofs.YtihlbbbajaepoaaGreat
open Go.RowKit
mutual
def Tm.reds : Tm → Int
 | .mk k n l => (if (Tm.mk k n l).redex = 0 then 0 else 1) + redsL l
def redsL : List Tm → Int
 | [] => 0
 | t :: l => t.reds + redsL l
end
mutual
theorem Tm.reds_bd : ∀ (t : Tm), 0 ≤ t.reds ∧ t.reds ≤ t.size
 | .mk k n l => by
  have := redsL_bd l
  rw [Tm.reds, Tm.size]
  split <;> omega
theorem redsL_bd : ∀ (l : List Tm), 0 ≤ redsL l ∧ redsL l ≤ sizes l
 | [] => by rw [redsL, sizes]; omega
 | t :: l => by
  have := Tm.reds_bd t
  have := redsL_bd l
  rw [redsL, sizes]
  omega
end
noncomputable def redsOf (t : Tm) : Int := @ite _ t.Valid (Classical.propDecidable _) t.reds 0
def redStep (s : Int) (t : Tm) (_ _ : Int) : Option Int := some (if t.redex = 0 then s else inc1 s)
mutual
theorem Tm.trav_reds : ∀ (t : Tm) (b d s : Int), 0 ≤ s → s + t.reds ≤ 1000 → t.trav redStep b d s = some (s + t.reds)
 | .mk k n l, b, d, s, h0, h1 => by
  have hb := redsL_bd l
  rw [Tm.trav, redStep, Option.bind_some]
  rw [Tm.reds] at h1 ⊢
  by_cases h : (Tm.mk k n l).redex = 0
  ·rw [if_pos h] at h1 ⊢
   rw [if_pos h, travL_reds l k 0 b d s h0 (by omega)]
   congr 1
   omega
  ·rw [if_neg h] at h1 ⊢
   rw [if_neg h, inc1_eq (by omega) (by omega), travL_reds l k 0 b d (s + 1) (by omega) (by omega)]
   congr 1
   omega
theorem travL_reds : ∀ (l : List Tm) (k : Int) (i : Nat) (b d s : Int), 0 ≤ s → s + redsL l ≤ 1000 → travL redStep k l i b d s = some (s + redsL l)
 | [], k, i, b, d, s, _, _ => by rw [travL, redsL]; congr 1; omega
 | t :: l, k, i, b, d, s, h0, h1 => by
  have h2 := Tm.reds_bd t
  have h3 := redsL_bd l
  rw [redsL] at h1 ⊢
  rw [travL, Tm.trav_reds t _ _ s h0 (by omega), Option.bind_some, travL_reds l k (i + 1) b d _ (by omega) (by omega)]
  congr 1
  omega
end
theorem reds_trav {t : Tm} (h : t.Valid) : t.trav redStep 0 1 0 = some (redsOf t) := by
 have h1 := h.2.2
 have h2 := t.reds_bd
 rw [Tm.trav_reds t 0 1 0 (by omega) (by omega)]
 unfold redsOf
 rw [if_pos h]
 congr 1
 omega
theorem red1_ok {u0 w0 : World} {c : Nat} (hu : Below u0.heap.size u0 w0) (hc : u0.heap.size ≤ c) :
  UseOk 200 21 u0 w0 (fun i => i = c) (IntAt c) 87 #[.pointer (some ⟨c, 0, none⟩)] redStep := by
 intro w s M x v b d hstep hst hroot _ hin hb hb1 hd hd1
 obtain ⟨a, cap, rfl⟩ := hin.form
 obtain ⟨hcell, rfl⟩ := hst
 have hbw : Below u0.heap.size u0 w := hstep.below hu hu.size (fun i hi => by rw [hi]; exact hc)
 have HR := tuck (fun W (hb : Below w.heap.size w W) => redI_any x hroot W (.slice a x.kids.length cap) ((hin.below hbw).below (hb.mono (Nat.le_refl _))))
 have HSTEP := tuck (Step.refl hstep.lt)
 have HC := tuck hcell
 obtain ⟨z, e0, ef⟩ := block_of_cells hcell
 clear hstep hin hcell e0 ef
 show Calls Tryz.prog _ #[.agg #[.int .i64 x.kind, .int .i64 x.num, .slice a x.kids.length cap], .agg #[.int .i64 b, .int .i64 d], .pointer (some ⟨c, 0, none⟩)] w _
 have HP : Hid (∀ M' w' s', (if x.redex = 0 then s else inc1 s) = s' → Step (fun i => i = c) w w' M' → IntAt c s' M' w' → UsePost (IntAt c) (fun i => i = c) w (redStep s x b d) (.returned (.bool true)) w') := fun M' w' s' h0 h1 h2 => ⟨M', h1, by unfold redStep; rfl, fun s'' h => by unfold redStep at h; cases h; rw [h0]; exact h2⟩
 generalize UsePost (IntAt c) (fun i => i = c) w (redStep s x b d) = post at *
 generalize x.redex = R at *
 by_cases hR : R = 0
 ·have HQ := tuck (fun M' w' => HP.out M' w' s (if_pos hR))
  have g0 : (R != 0) = false := by simpa using hR
  clear HP hR
  go_enter Tryz.func87, Tryz.ntmps87
  go_wp2_with fail
  refine (HR.out _ (below2 _ _ _)).mono ?_
  rintro e w1 ⟨rfl, hb1⟩
  have HB2 := tuck (bAfter (below2 _ _ _) hb1)
  clear hb1 HR
  go_wp2_with fail
  exact HQ.out _ _ (HSTEP.out.and HB2.out) ⟨(HB2.out.block c z).trans HC.out, rfl⟩
 ·have HQ := tuck (fun M' w' => HP.out M' w' (inc1 s) (if_neg hR))
  have g0 : (R != 0) = true := by simpa using hR
  clear HP hR
  go_enter Tryz.func87, Tryz.ntmps87
  go_wp2_with fail
  refine (HR.out _ (below2 _ _ _)).mono ?_
  rintro e w1 ⟨rfl, hb1⟩
  have HB2 := tuck (bAfter (below2 _ _ _) hb1)
  have hc1 := (HB2.out.block c z).trans HC.out
  obtain ⟨z1, e0, ef⟩ := block_of_cells hc1
  have c0 : w1.cell? ⟨c, 0, none⟩ = some (.int .i64 s) := e0 0
  have f0 := ef 0
  have HSET : Hid (IntAt c (inc1 s) (fun i => i = c) (w1.setCell ⟨c, 0, none⟩ (.int .i64 (inc1 s)))) := tuck ⟨by simpa using block_set hc1 0 (.int .i64 (inc1 s)), rfl⟩
  clear hb1 HR hc1 e0 ef
  go_wp2_with fail
  exact HQ.out _ _ ((HSTEP.out.and HB2.out).setCell rfl _) HSET.out
set_option maxRecDepth 100000 in
theorem redsI_any (t : Tm) (w : World) (v : Value) (h : TmIn w 0 t v) : Calls Tryz.prog 38 #[v] w (IntPost w (redsOf t)) := by
 obtain ⟨s, rfl, hs⟩ := h
 obtain ⟨a, cap, rfl⟩ := hs.form
 have HV : Hid (∀ w', Below w.heap.size w w' → Calls Tryz.prog 42 #[.agg #[.int .i64 t.kind, .int .i64 t.num, .slice a t.kids.length cap]] w' (BoolPost w' (tr t.Valid))) := fun w' h => validI_any t w' _ ⟨_, rfl, hs.below h⟩
 by_cases hv : t.Valid
 ·have HR := tuck (reds_trav hv)
  rw [tr_of hv] at HV
  have HE : Hid (∀ (w1 w2 : World) (c : Nat), Below w.heap.size w w1 → w.heap.size ≤ c → Below w1.heap.size w1 w2 → w1.heap[c]? = some (.cells #[.int .i64 0] 3 (0, 0)) →
    Calls Tryz.prog 85 #[.agg #[.int .i64 t.kind, .int .i64 t.num, .slice a t.kids.length cap], .agg #[.int .i64 0, .int .i64 1], .func (.func 87) #[] #[.pointer (some ⟨c, 0, none⟩)]] w2
     (UsePost (IntAt c) (fun i => i = c) w2 (some (redsOf t)))) := fun w1 w2 c hb hc hb2 hcc => by
   have hcl := (block_of_cells hcc).1
   have h := each_any (D := 200) (L := 21) (by omega) IntAt.below hb (fun i hi => by rw [hi]; exact hc) (fun _ _ => by kernel_rfl) (red1_ok hb hc) t.kids t.kind t.num 0 1 w2 0 (fun i => i = c) _ (Step.of_below hb2 (fun i hi => by rw [hi]; exact hcl)) (IntAt.below _ _ _ _ ⟨hcc, rfl⟩ hb2) (by rw [Tm.eta]; exact hv.1) (by rw [Tm.eta]; exact most_valid hv) hs (by omega) (by have := (valid_bounds hv).2; omega) (by omega) (by have := (valid_bounds hv).2; omega)
   rw [Tm.eta, HR.out] at h
   exact h
  generalize redsOf t = res at *
  clear hv HR hs
  go_enter Tryz.func38, Tryz.ntmps38
  go_wp2_with fail
  refine (HV.out _ (below1 _ _)).mono ?_
  rintro e w1 ⟨rfl, hb⟩
  have HB := tuck (bAfter (below1 _ _) hb)
  have hz : w.heap.size < w1.heap.size := by have := hb.size; simp at this; omega
  have b0 : w1.cell? ⟨w.heap.size, 0, none⟩ = some (.int .i64 t.kind) := (hb.cell (p := ⟨w.heap.size, 0, none⟩) (by simp)).trans (by go_simp)
  have b1 : w1.cell? ⟨w.heap.size, 1, none⟩ = some (.int .i64 t.num) := (hb.cell (p := ⟨w.heap.size, 1, none⟩) (by simp)).trans (by go_simp)
  have b2 : w1.cell? ⟨w.heap.size, 2, none⟩ = some (.slice a t.kids.length cap) := (hb.cell (p := ⟨w.heap.size, 2, none⟩) (by simp)).trans (by go_simp)
  clear hb HV
  go_wp2_with fail
  have hcn := heap_new w1 (.cells #[.int .i64 0] 3)
  have hbw : Below w.heap.size w (w1.alloc (.cells #[.int .i64 0] 3)) := bAfter HB.out (below1 _ _)
  have hbox : (w.heap.size < (w1.alloc (.cells #[.int .i64 0] 3)).heap.size ∧ (w1.alloc (.cells #[.int .i64 0] 3)).cell? ⟨w.heap.size, 0, none⟩ = some (.int .i64 t.kind) ∧ (w1.alloc (.cells #[.int .i64 0] 3)).cell? ⟨w.heap.size, 1, none⟩ = some (.int .i64 t.num) ∧ (w1.alloc (.cells #[.int .i64 0] 3)).cell? ⟨w.heap.size, 2, none⟩ = some (.slice a t.kids.length cap)) :=
   box3_below ⟨hz, b0, b1, b2⟩ (below1 _ _)
  have hle : w.heap.size ≤ w1.heap.size := Nat.le_of_lt hz
  have HCN := tuck hcn
  have HBW := tuck hbw
  have HBOX := tuck hbox
  clear hcn hbw hbox b0 b1 b2
  obtain ⟨z0, b0, b1, b2⟩ := HBOX.out
  generalize w1.alloc (.cells #[.int .i64 0] 3) = W0 at *
  generalize w1.heap.size = c at *
  have hcz := (block_of_cells HCN.out).1
  have hnc : ¬ w.heap.size = c := by omega
  go_region_held3 (fun w' => w.heap.size < w'.heap.size ∧ w'.cell? ⟨w.heap.size, 0, none⟩ = some (.int .i64 t.kind) ∧ w'.cell? ⟨w.heap.size, 1, none⟩ = some (.int .i64 t.num) ∧ w'.cell? ⟨w.heap.size, 2, none⟩ = some (.slice a t.kids.length cap)) (first | exact HBOX.out | exact box3_step (by assumption) hs3 hnc | exact box3_below (by assumption) hb2) (first | (go_at_call 86; refine (rootSpot_any _).mono ?_; rintro e w2 ⟨rfl, hb2⟩) | (go_at_call 85; refine (HE.out W0 _ c HBW.out hle (bAfter (Below.refl _ _).drew hb2) HCN.out).mono ?_; rintro e w3 ⟨M3, hs3, rfl, hst3⟩))
  all_goals
   obtain ⟨hc3, rfl⟩ := hst3 res rfl
   have c3 : w3.cell? ⟨c, 0, none⟩ = some (.int .i64 res) := (block_of_cells hc3).2.1 0
   have hbd : Below w.heap.size w w2 := bAfter HBW.out (bAfter (Below.refl _ _).drew hb2)
   have HB3 := tuck (hs3.below hbd hbd.size (fun i hi => by rw [hi]; exact hle))
   clear hs3 hst3 hb2 hc3 hbd
   go_wp2_with fail
   go_ret
   exact ⟨rfl, HB3.out⟩
 ·rw [tr_not hv] at HV
  rw [show redsOf t = 0 from if_neg hv]
  clear hv hs
  go_enter Tryz.func38, Tryz.ntmps38
  go_wp2_with fail
  refine (HV.out _ (below1 _ _)).mono ?_
  rintro e w1 ⟨rfl, hb⟩
  have HB := tuck (bAfter (below1 _ _) hb)
  clear hb
  go_wp2_with fail
  go_ret
  exact ⟨rfl, HB.out⟩
end Go.Proofs.YtihlbbbajaepoaaGreat
