/-
  FindP, Node, StepP.
-/
import Derived.Test.YtlbikgnanabjgaaGreatQ06
import Derived.Test.YtlbikgnanabjgaaGreatQ08
import Derived.Test.YtlbikgnanabjgaaGreatQ12
import Derived.Test.YtlbikgnanabjgaaGreatQ23
import Derived.OwnWalk
namespace Go.Proofs.YtlbikgnanabjgaaGreat
def kidT (t : Tm) (i : Nat) : Tm := t.kids.getD i zeroT
def Tm.contr (t : Tm) : Tm :=
 if t.redex = 1 then (kidT (kidT t 0) 1).subst (kidT t 1) 0 0 else if t.redex = 2 then kidT t 1
 else if t.redex = 3 then .mk 5 0 [.mk 5 0 [kidT t 2, kidT (kidT t 3) 0], .mk 9 0 [kidT t 0, kidT t 1, kidT t 2, kidT (kidT t 3) 0]]
 else if t.redex = 4 then kidT t 2 else if t.redex = 5 then kidT (kidT t 0) 1 else kidT (kidT t 0) 2
section
variable (rl mo : Bool)
mutual
def Tm.find : Tm → Option (List (Tm × Nat) × Tm)
 | .mk k n l =>
  if (Tm.mk k n l).redex ≠ 0 ∧ rl = false then some ([], .mk k n l) else
  match findL (.mk k n l) l 0 with
  | some x => some x
  | none => if (Tm.mk k n l).redex ≠ 0 then some ([], .mk k n l) else none
def findL (t0 : Tm) : List Tm → Nat → Option (List (Tm × Nat) × Tm)
 | [], _ => none
 | t :: l, i =>
  match (if mo = true ∧ mainIx t0.kind ≠ (i : Int) then none else t.find) with
  | some (p, r) => some ((t0, i) :: p, r)
  | none => findL t0 l (i + 1)
end
mutual
def Tm.step : Tm → Option Tm
 | .mk k n l =>
  if (Tm.mk k n l).redex ≠ 0 ∧ rl = false then some (Tm.mk k n l).contr else
  match stepL k l 0 with
  | some l' => some (.mk k n l')
  | none => if (Tm.mk k n l).redex ≠ 0 then some (Tm.mk k n l).contr else none
def stepL (k : Int) : List Tm → Nat → Option (List Tm)
 | [], _ => none
 | t :: l, i =>
  match (if mo = true ∧ mainIx k ≠ (i : Int) then none else t.step) with
  | some t' => some (t' :: l)
  | none => (stepL k l (i + 1)).map (t :: ·)
end
end
def around : List (Tm × Nat) → Tm → Tm
 | [], x => x
 | (t, i) :: p, x => .mk t.kind t.num (t.kids.set i (around p x))
section
variable {rl mo : Bool}
mutual
theorem Tm.find_step : ∀ t : Tm, t.step rl mo = (t.find rl mo).map fun x => around x.1 x.2.contr
 | .mk k n l => by
  rw [Tm.step, Tm.find]
  by_cases h : (Tm.mk k n l).redex ≠ 0 ∧ rl = false
  ·rw [if_pos h, if_pos h]; rfl
  ·rw [if_neg h, if_neg h]
   have hl : Option.map (fun m => Tm.mk k n m) (stepL rl mo k l 0) = Option.map (fun x => around x.1 x.2.contr) (findL rl mo (.mk k n l) l 0) := findL_step (Tm.mk k n l) l [] rfl
   cases hf : findL rl mo (.mk k n l) l 0 with
   | none =>
    rw [hf] at hl
    have hs : stepL rl mo k l 0 = none := by
     cases e : stepL rl mo k l 0 with
     | none => rfl
     | some y => rw [e] at hl; simp at hl
    rw [hs]
    by_cases h2 : (Tm.mk k n l).redex ≠ 0
    ·simp only [if_pos h2]; rfl
    ·simp only [if_neg h2]; rfl
   | some x =>
    rw [hf] at hl
    cases e : stepL rl mo k l 0 with
    | none => rw [e] at hl; simp at hl
    | some y =>
     rw [e] at hl
     simpa using hl
theorem findL_step (t0 : Tm) : ∀ (l pre : List Tm), t0.kids = pre ++ l → (stepL rl mo t0.kind l pre.length).map (fun m => Tm.mk t0.kind t0.num (pre ++ m)) = (findL rl mo t0 l pre.length).map fun x => around x.1 x.2.contr
 | [], pre, _ => by rw [stepL, findL]; rfl
 | t :: l, pre, h => by
  have ih := findL_step t0 l (pre ++ [t]) (by rw [h, List.append_assoc]; rfl)
  rw [List.length_append, List.length_singleton] at ih
  rw [stepL, findL]
  by_cases hm : mo = true ∧ mainIx t0.kind ≠ (pre.length : Int)
  ·rw [if_pos hm, if_pos hm]
   show Option.map _ (Option.map _ _) = Option.map _ (findL rl mo t0 l (pre.length + 1))
   rw [← ih, Option.map_map]
   congr 1
   funext m
   simp
  ·rw [if_neg hm, if_neg hm, Tm.find_step t]
   cases hf : t.find rl mo with
   | none =>
    show Option.map _ (Option.map _ _) = Option.map _ (findL rl mo t0 l (pre.length + 1))
    rw [← ih, Option.map_map]
    congr 1
    funext m
    simp
   | some x =>
    obtain ⟨p, r⟩ := x
    show some (Tm.mk t0.kind t0.num (pre ++ around p r.contr :: l)) = some (around ((t0, pre.length) :: p) r.contr)
    rw [around, h, List.set_append_right _ _ (Nat.le_refl _), Nat.sub_self]
    rfl
end
end
end Go.Proofs.YtlbikgnanabjgaaGreat
namespace Go.Proofs.YtlbikgnanabjgaaGreat
theorem Tm.Valid.get {t : Tm} (h : t.Valid) {i : Nat} (hi : i < t.kids.length) : t.kids[i].Valid := by
 obtain ⟨h1, h2, h3⟩ := h
 refine ⟨(allsOk_iff _).1 (t.allOk_iff.1 h1).2 _ (List.getElem_mem hi), ?_, ?_⟩
 ·have := mem_hgts hi
  have := t.hgt_eq
  omega
 ·have := size_get_le t.kids i hi
  have := t.size_eq
  omega
theorem kidT_eq {t : Tm} {i : Nat} (hi : i < t.kids.length) : kidT t i = t.kids[i] := by
 unfold kidT
 rw [List.getD_eq_getElem?_getD, List.getElem?_eq_getElem hi]
 rfl
theorem Tm.Valid.kidT {t : Tm} (h : t.Valid) {i : Nat} (hi : i < t.kids.length) : (kidT t i).Valid := by
 rw [kidT_eq hi]; exact h.get hi
def InPath : List (Tm × Nat) → Prop
 | [] => True
 | (t, i) :: p => i < t.kids.length ∧ InPath p
theorem around_valid : ∀ (p : List (Tm × Nat)) (x : Tm), InPath p → (around p x).Valid → x.Valid
 | [], _, _, h => h
 | (t, i) :: p, x, hp, h => by
  rw [around] at h
  have := h.get (i := i) (by simpa [Tm.kids] using hp.1)
  simp only [Tm.kids, List.getElem_set_self] at this
  exact around_valid p x hp.2 this
mutual
theorem Tm.find_ok {rl mo : Bool} : ∀ (t : Tm) (p : List (Tm × Nat)) (x : Tm), t.find rl mo = some (p, x) → t.Valid → InPath p ∧ x.redex ≠ 0 ∧ x.Valid ∧ p.length ≤ hgts t.kids ∧ ∀ y ∈ p, y.1.Valid
 | .mk k n l, p, x, h, hv => by
  rw [Tm.find] at h
  by_cases h1 : (Tm.mk k n l).redex ≠ 0 ∧ rl = false
  ·rw [if_pos h1] at h
   obtain ⟨rfl, rfl⟩ : [] = p ∧ Tm.mk k n l = x := by simpa using h
   exact ⟨trivial, h1.1, hv, Nat.zero_le _, fun y hy => by cases hy⟩
  ·rw [if_neg h1] at h
   cases hf : findL rl mo (.mk k n l) l 0 with
   | some y =>
    rw [hf] at h
    obtain rfl : y = (p, x) := by simpa using h
    exact findL_ok (.mk k n l) hv l [] rfl p x hf
   | none =>
    rw [hf] at h
    by_cases h2 : (Tm.mk k n l).redex ≠ 0
    ·simp only [if_pos h2] at h
     obtain ⟨rfl, rfl⟩ : [] = p ∧ Tm.mk k n l = x := by simpa using h
     exact ⟨trivial, h2, hv, Nat.zero_le _, fun y hy => by cases hy⟩
    ·simp only [if_neg h2] at h
     cases h
theorem findL_ok {rl mo : Bool} (t0 : Tm) (hv : t0.Valid) : ∀ (l pre : List Tm), t0.kids = pre ++ l → ∀ (p : List (Tm × Nat)) (x : Tm), findL rl mo t0 l pre.length = some (p, x) → InPath p ∧ x.redex ≠ 0 ∧ x.Valid ∧ p.length ≤ hgts t0.kids ∧ ∀ y ∈ p, y.1.Valid
 | [], pre, _, p, x, h => by rw [findL] at h; cases h
 | t :: l, pre, e, p, x, h => by
  rw [findL] at h
  have hlen : pre.length < t0.kids.length := by rw [e]; simp
  have hget : t0.kids[pre.length] = t := by simp [e]
  cases hf : (if mo = true ∧ mainIx t0.kind ≠ (pre.length : Int) then none else t.find rl mo) with
  | none =>
   rw [hf] at h
   exact findL_ok t0 hv l (pre ++ [t]) (by rw [e, List.append_assoc]; rfl) p x (by rw [List.length_append, List.length_singleton]; exact h)
  | some y =>
   obtain ⟨p', x'⟩ := y
   rw [hf] at h
   obtain ⟨rfl, rfl⟩ : (t0, pre.length) :: p' = p ∧ x' = x := by simpa using h
   have hf' : t.find rl mo = some (p', x') := by
    split at hf
    ·cases hf
    ·exact hf
   have hvt : t.Valid := hget ▸ hv.get hlen
   obtain ⟨a, b, c, d, e'⟩ := Tm.find_ok t p' x' hf' hvt
   refine ⟨⟨hlen, a⟩, b, c, ?_, fun y hy => ?_⟩
   ·have h1 := mem_hgts hlen
    rw [hget, t.hgt_eq] at h1
    rw [List.length_cons]
    omega
   ·rcases List.mem_cons.1 hy with rfl | hy
    ·exact hv
    ·exact e' y hy
end
theorem redex_shape {t : Tm} (hr : t.rootOk) (h : t.redex ≠ 0) :
  (t.redex = 1 ∧ t.kind = 5 ∧ t.kids.length = 2 ∧ (kidT t 0).kind = 4) ∨ (t.redex = 2 ∧ t.kind = 9 ∧ t.kids.length = 4 ∧ (kidT t 3).kind = 7) ∨ (t.redex = 3 ∧ t.kind = 9 ∧ t.kids.length = 4 ∧ (kidT t 3).kind = 8) ∨
  (t.redex = 4 ∧ t.kind = 12 ∧ t.kids.length = 3 ∧ (kidT t 1).kind = 11) ∨ (t.redex = 5 ∧ t.kind = 15 ∧ t.kids.length = 1 ∧ (kidT t 0).kind = 14) ∨ (t.redex = 6 ∧ t.kind = 16 ∧ t.kids.length = 1 ∧ (kidT t 0).kind = 14) := by
 have ha : arity t.kind = t.kids.length := hr.1
 have hred : t.redex = redexK t.kind (kidT t (mainIx t.kind).toNat).kind := rfl
 by_cases h5 : t.kind = 5
 ·rw [h5] at ha hred
  rw [show (mainIx 5).toNat = 0 by decide] at hred
  have h2 : arity 5 = 2 := by decide
  have hm : (kidT t 0).kind = 4 := by
   refine Classical.byContradiction fun hc => h ?_
   rw [hred]; unfold redexK; (repeat' split) <;> omega
  rw [hm] at hred
  exact Or.inl ⟨hred.trans (by decide), h5, by omega, hm⟩
 by_cases h9 : t.kind = 9
 ·rw [h9] at ha hred
  rw [show (mainIx 9).toNat = 3 by decide] at hred
  have h2 : arity 9 = 4 := by decide
  have hm : (kidT t 3).kind = 7 ∨ (kidT t 3).kind = 8 := by
   refine Classical.byContradiction fun hc => h ?_
   rw [hred]; unfold redexK; (repeat' split) <;> omega
  rcases hm with hm | hm
  ·rw [hm] at hred
   exact Or.inr (Or.inl ⟨hred.trans (by decide), h9, by omega, hm⟩)
  ·rw [hm] at hred
   exact Or.inr (Or.inr (Or.inl ⟨hred.trans (by decide), h9, by omega, hm⟩))
 by_cases h12 : t.kind = 12
 ·rw [h12] at ha hred
  rw [show (mainIx 12).toNat = 1 by decide] at hred
  have h2 : arity 12 = 3 := by decide
  have hm : (kidT t 1).kind = 11 := by
   refine Classical.byContradiction fun hc => h ?_
   rw [hred]; unfold redexK; (repeat' split) <;> omega
  rw [hm] at hred
  exact Or.inr (Or.inr (Or.inr (Or.inl ⟨hred.trans (by decide), h12, by omega, hm⟩)))
 by_cases h15 : t.kind = 15
 ·rw [h15] at ha hred
  rw [show (mainIx 15).toNat = 0 by decide] at hred
  have h2 : arity 15 = 1 := by decide
  have hm : (kidT t 0).kind = 14 := by
   refine Classical.byContradiction fun hc => h ?_
   rw [hred]; unfold redexK; (repeat' split) <;> omega
  rw [hm] at hred
  exact Or.inr (Or.inr (Or.inr (Or.inr (Or.inl ⟨hred.trans (by decide), h15, by omega, hm⟩))))
 by_cases h16 : t.kind = 16
 ·rw [h16] at ha hred
  rw [show (mainIx 16).toNat = 0 by decide] at hred
  have h2 : arity 16 = 1 := by decide
  have hm : (kidT t 0).kind = 14 := by
   refine Classical.byContradiction fun hc => h ?_
   rw [hred]; unfold redexK; (repeat' split) <;> omega
  rw [hm] at hred
  exact Or.inr (Or.inr (Or.inr (Or.inr (Or.inr ⟨hred.trans (by decide), h16, by omega, hm⟩))))
 refine absurd ?_ h
 rw [hred]; unfold redexK; (repeat' split) <;> omega
theorem kid_len {t : Tm} (h : t.rootOk) {k : Int} (hk : t.kind = k) {a : Int} (ha : arity k = a) : (t.kids.length : Int) = a := by
 have := h.1
 rw [hk, ha] at this
 exact this.symm
theorem Tm.Valid.root {t : Tm} (h : t.Valid) : t.rootOk := (t.allOk_iff.1 h.1).1
theorem contr_part {t : Tm} (hk : ∀ i (hi : i < t.kids.length), t.kids[i].Valid) (hr : t.rootOk) (h : t.redex ≠ 0) (h1 : t.redex ≠ 1) (h3 : t.redex ≠ 3) : t.contr.Valid := by
 have hv : ∀ i, i < t.kids.length → (kidT t i).Valid := fun i hi => by rw [kidT_eq hi]; exact hk i hi
 unfold Tm.contr
 rcases redex_shape hr h with ⟨e, _⟩ | ⟨e, -, hl, -⟩ | ⟨e, _⟩ | ⟨e, -, hl, -⟩ | ⟨e, -, hl, hm⟩ | ⟨e, -, hl, hm⟩
 ·exact absurd e h1
 ·rw [e, if_neg (by decide), if_pos rfl]; exact hv 1 (by omega)
 ·exact absurd e h3
 ·rw [e, if_neg (by decide), if_neg (by decide), if_neg (by decide), if_pos rfl]; exact hv 2 (by omega)
 ·rw [e, if_neg (by decide), if_neg (by decide), if_neg (by decide), if_neg (by decide), if_pos rfl]
  have := hv 0 (by omega)
  exact this.kidT (by have := kid_len this.root hm (a := 3) (by decide); omega)
 ·rw [e, if_neg (by decide), if_neg (by decide), if_neg (by decide), if_neg (by decide), if_neg (by decide)]
  have := hv 0 (by omega)
  exact this.kidT (by have := kid_len this.root hm (a := 3) (by decide); omega)
noncomputable def stepOut (rl mo : Bool) (t : Tm) : Tm × Int :=
 @ite _ t.Valid (Classical.propDecidable _) (match t.step rl mo with | none => (t, 0) | some t' => @ite _ t'.Valid (Classical.propDecidable _) (t', 1) (zeroT, 2)) (zeroT, 3)
noncomputable def runGo (rl mo : Bool) : Nat → Tm → Tm × Int × Nat
 | 0, t => match t.step rl mo with | none => (t, 0, 0) | some _ => (t, 1, 0)
 | n + 1, t => match t.step rl mo with | none => (t, 0, 0) | some t' => @ite _ t'.Valid (Classical.propDecidable _) ((runGo rl mo n t').1, (runGo rl mo n t').2.1, (runGo rl mo n t').2.2 + 1) (t, 2, 0)
def NormOk (t : Tm) (fuel : Int) : Prop := t.Valid ∧ 0 ≤ fuel ∧ fuel ≤ 200
noncomputable def normC (rl mo : Bool) (t : Tm) (fuel : Int) : Int := @ite _ (NormOk t fuel) (Classical.propDecidable _) (runGo rl mo fuel.toNat t).2.1 3
theorem runGo_none {rl mo : Bool} {n : Nat} {t : Tm} (h : t.step rl mo = none) : runGo rl mo n t = (t, 0, 0) := by
 cases n <;> rw [runGo, h]
theorem runGo_zero {rl mo : Bool} {t t' : Tm} (h : t.step rl mo = some t') : runGo rl mo 0 t = (t, 1, 0) := by
 rw [runGo, h]
theorem runGo_large {rl mo : Bool} {n : Nat} {t t' : Tm} (h : t.step rl mo = some t') (hv : ¬ t'.Valid) : runGo rl mo (n + 1) t = (t, 2, 0) := by
 rw [runGo, h]
 exact if_neg hv
theorem runGo_took {rl mo : Bool} {n : Nat} {t t' : Tm} (h : t.step rl mo = some t') (hv : t'.Valid) : runGo rl mo (n + 1) t = ((runGo rl mo n t').1, (runGo rl mo n t').2.1, (runGo rl mo n t').2.2 + 1) := by
 rw [runGo, h]
 exact if_pos hv
end Go.Proofs.YtlbikgnanabjgaaGreat
namespace Go.Proofs.YtlbikgnanabjgaaGreat
open Go.RowKit
theorem leaf_any (k n : Int) (w : World) : Calls Tryz.prog 42 #[.int .i64 k, .int .i64 n] w fun e w' => e = .returned (.agg #[.int .i64 k, .int .i64 n, .slice none 0 0]) ∧ Below w.heap.size w w' := by
 go_enter Tryz.func42, Tryz.ntmps42
 go_wp2
 refine bodyPost_ret (v := .agg #[.int .i64 k, .int .i64 n, .slice none 0 0]) (by simp [results, Tryz.results42, go_sem]) rfl ⟨rfl, below1 _ _⟩
theorem cellsL_one {r : List (Tm × Value)} {w : World} {B : Nat} (h : ∀ x ∈ r, SlIn w B x.1.kids x.2) : ∀ u ∈ cellsL r, u.oneCell' = true := by
 induction r with
 | nil => intro u hu; simp [cellsL] at hu
 | cons x r ih =>
  obtain ⟨t, s⟩ := x
  intro u hu
  simp only [cellsL, List.mem_cons] at hu
  rcases hu with rfl | rfl | rfl | hu
  ·rfl
  ·rfl
  ·obtain ⟨a, cap, e⟩ := (h _ (List.mem_cons_self ..)).form
   rw [show (u : Value) = .slice a t.kids.length cap from e]; rfl
  ·exact ih (fun x hx => h x (List.mem_cons_of_mem _ hx)) u hu
def NodePost (B : Nat) (k : Int) (l : List Tm) (w : World) (e : Ending) (w' : World) : Prop := ∃ s, e = .returned (.agg #[.int .i64 k, .int .i64 0, s]) ∧ SlIn w' B l s ∧ Below w.heap.size w w'
set_option maxRecDepth 100000 in
theorem node_any (B : Nat) (k : Int) (l : List Tm) (w : World) (v : Value) (hne : l ≠ []) (_hB : B ≤ w.heap.size) (hl : l.length ≤ 100000) (h : SlIn w B l v) : Calls Tryz.prog 43 #[.int .i64 k, v] w (NodePost B k l w) := by
 obtain ⟨a, cap, b, o, rfl, hl2, hp, hrow⟩ := h
 obtain ⟨r, hr, hcell, hin⟩ := hrow.list
 have hrl : r.length = l.length := by rw [← hr, List.length_map]
 obtain ⟨i0, hi, hz0, hz1, hz2⟩ := info_parts info_term'
 obtain ⟨rfl, _⟩ := hp hne
 have HC := tuck hcell
 have HIN := tuck hin
 have HR := tuck hr
 have HRL := tuck hrl
 have HI := tuck hi
 have HZ0 := tuck hz0
 have HZ1 := tuck hz1
 have HZ2 := tuck hz2
 clear hcell hin hr hrl hrow hp hi hz0 hz1 hz2
 go_enter Tryz.func43, Tryz.ntmps43
 have hlt : b < w.heap.size := by
  cases r with
  | nil => exact absurd (by have := HRL.out; simpa using this.symm) hne
  | cons x r => exact World.block_lt_of_cell? w _ (HC.out 0 _ rfl)
 go_wp2_with (at_builtin; refine wpList_append_own _ rfl (.tmp 6) (.tmp 7) 23 rfl (w.heap.size + 1) 25 i0 _ 3 40 Tryz.underlying23 HI.out HZ0.out HZ1.out HZ2.out rfl (by decide) (.slice (some ⟨w.heap.size + 1, 0, none⟩) 0 0) 0 [] rfl ?own ⟨b, o, none⟩ l.length cap (cellsL r) rfl ?len ?cells ?one ?c63 ?cby ?cbase ?next)
 case own =>
  have := World.ownsRow_made (w.alloc (.cells #[.int .i64 0, .int .i64 0, .slice none 0 0] 25)) #[] 0 (base := w.heap.size + 1) (e := 25) (size := 3) (by simp) (by simp [maxLen]) rfl
  simpa using this
 case len => rw [cellsL_length, HRL.out]
 case cells =>
  intro j u hu
  have := HC.out j u hu
  have ea : (Addr.mk b o none).add j = ⟨b, o + j, none⟩ := by unfold Addr.add; split <;> simp_all
  rw [ea]
  exact ((below2 w _ _).cell (p := ⟨b, o + j, none⟩) hlt).trans this
 case one => exact cellsL_one HIN.out
 case c63 => simp [maxLen]; omega
 case cby => omega
 case cbase => simp
 case next =>
  intro v' w' hown hgrow _
  have hbel : Below w.heap.size w w' := (below2 w _ _).grown hgrow (by simp; omega) (fun g hg => by simp [Value.ownBlock] at hg; omega)
  have hz : w.heap.size < w'.heap.size := by have := hgrow.size; simp at this; omega
  have hc0 : ∀ i, w'.cell? ⟨w.heap.size, i, none⟩ = ((w.alloc (.cells #[.int .i64 0, .int .i64 0, .slice none 0 0] 25)).alloc (.cells #[] 25)).cell? ⟨w.heap.size, i, none⟩ := fun i =>
   World.cell?_of_block (hgrow.block w.heap.size (by simp; omega) (fun e => by simp [Value.ownBlock] at e))
  have hf0 : ∀ i, w'.frozen? ⟨w.heap.size, i, none⟩ = ((w.alloc (.cells #[.int .i64 0, .int .i64 0, .slice none 0 0] 25)).alloc (.cells #[] 25)).frozen? ⟨w.heap.size, i, none⟩ := fun i =>
   World.frozen?_of_block (hgrow.block w.heap.size (by simp; omega) (fun e => by simp [Value.ownBlock] at e))
  have hsl : ∃ g c, v' = .slice (some ⟨g, 0, none⟩) l.length c ∧ w.heap.size < g ∧ ∀ j u, (cellsL r)[j]? = some u → w'.cell? ⟨g, 0 + j, none⟩ = some u := by
   rcases hown.2 with ⟨_, h0⟩ | ⟨g, c, cur, rfl, hg, _⟩
   ·exact absurd (List.length_eq_zero_iff.1 h0) hne
   ·refine ⟨g, c, rfl, by omega, fun j u hu => ?_⟩
    rw [Nat.zero_add, hown.cellAt j (by have := (List.getElem?_eq_some_iff.1 hu).1; rw [cellsL_length, HRL.out] at this; exact this)]
    exact hu
  obtain ⟨g, c, rfl, hg, hsl⟩ := hsl
  have HSL := tuck hsl
  have HBEL := tuck hbel
  clear hsl hbel hown hgrow
  go_wp2_with fail
  refine bodyPost_ret (v := .agg #[.int .i64 k, .int .i64 0, .slice (some ⟨g, 0, none⟩) l.length c]) (by simp [results, Tryz.results43, go_sem, hc0]) rfl ?_
  have hb3 := bSet3 HBEL.out (Nat.le_refl w.heap.size) 0 1 2 (.int .i64 k) (.int .i64 0) (.slice (some ⟨g, 0, none⟩) l.length c)
  refine ⟨_, rfl, ⟨some ⟨g, 0, none⟩, c, g, 0, rfl, hl2, fun _ => ⟨rfl, by omega⟩, ?_⟩, hb3⟩
  have hrow : RowAt _ B (r.map (·.1)) g 0 := RowAt.of_list (fun j u hu => ?_) (fun x hx => (HIN.out x hx).below hb3)
  ·rw [HR.out] at hrow
   exact hrow
  have hne3 : ∀ i, (⟨w.heap.size, i, none⟩ : Addr) ≠ ⟨g, 0 + j, none⟩ := fun i e => by injection e; omega
  rw [World.cell?_setCell_other _ _ _ _ (hne3 _), World.cell?_setCell_other _ _ _ _ (hne3 _), World.cell?_setCell_other _ _ _ _ (hne3 _)]
  exact HSL.out j u hu
end Go.Proofs.YtlbikgnanabjgaaGreat
