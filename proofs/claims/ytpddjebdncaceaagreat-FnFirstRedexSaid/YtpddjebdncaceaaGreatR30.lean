/-
  PlT, PlP, RngC.
-/
import Derived.Test.YtpddjebdncaceaaGreatR03
import Derived.Test.YtpddjebdncaceaaGreatR06
import Derived.Test.YtpddjebdncaceaaGreatR14
import Derived.Test.YtpddjebdncaceaaGreatR18
import Derived.Test.YtpddjebdncaceaaGreatR24
import Derived.Test.YtpddjebdncaceaaGreatR26
import Derived.Lib.AppendZeros
import Derived.RangeFuncBound
import Derived.RangeFuncCalls
import Derived.RangeFuncLeaves
import Derived.RangeFuncNested
namespace Go.Proofs.YtpddjebdncaceaaGreat
open Go.RowKit
set_option linter.unusedSimpArgs false
def IsX (w : World) (X : Nat → Prop) (N : Int → Int) (len : Nat) (v : Value) : Prop :=
 ∃ a cap b o, v = .slice a len cap ∧ len ≤ cap ∧ (0 < len → a = some ⟨b, o, none⟩ ∧ ¬ X b ∧ b < w.heap.size) ∧ ∀ i : Nat, i < len → w.cell? ⟨b, o + i, none⟩ = some (.int .i64 (N i))
theorem IsX.form {w : World} {X : Nat → Prop} {N : Int → Int} {len : Nat} {v : Value} (h : IsX w X N len v) : ∃ a cap, v = .slice a len cap := by
 obtain ⟨a, cap, _, _, h, _⟩ := h
 exact ⟨a, cap, h⟩
theorem IsX.to {w w' : World} {X X' : Nat → Prop} {N : Int → Int} {len : Nat} {v : Value} (h : IsX w X N len v) (hk : ∀ b, ¬ X b → b < w.heap.size → ¬ X' b ∧ b < w'.heap.size ∧ ∀ o, w'.cell? ⟨b, o, none⟩ = w.cell? ⟨b, o, none⟩) : IsX w' X' N len v := by
 obtain ⟨a, cap, b, o, rfl, hlc, h1, h2⟩ := h
 refine ⟨a, cap, b, o, rfl, hlc, fun h0 => ?_, fun i hi => ?_⟩
 ·obtain ⟨e, hx, hb⟩ := h1 h0
  obtain ⟨k1, k2, -⟩ := hk b hx hb
  exact ⟨e, k1, k2⟩
 ·obtain ⟨-, hx, hb⟩ := h1 (by omega)
  obtain ⟨-, -, k3⟩ := hk b hx hb
  exact (k3 _).trans (h2 i hi)
theorem IsX.below {w w' : World} {X : Nat → Prop} {N : Int → Int} {len : Nat} {v : Value} (h : IsX w X N len v) (hb : Below w.heap.size w w') : IsX w' X N len v :=
 h.to fun b hx hbw => ⟨hx, Nat.lt_of_lt_of_le hbw hb.size, fun o => hb.cell (p := ⟨b, o, none⟩) hbw⟩
theorem IsX.ints {w : World} {X : Nat → Prop} {N : Int → Int} {len : Nat} {v : Value} (h : IsX w X N len v) : Ints w 0 N len v := by
 obtain ⟨a, cap, b, o, rfl, -, h1, h2⟩ := h
 exact ⟨a, cap, b, o, rfl, fun h0 => ⟨(h1 h0).1, Nat.zero_le _, (h1 h0).2.2⟩, h2⟩
theorem IsX.congr {w : World} {X : Nat → Prop} {N N' : Int → Int} {len : Nat} {v : Value} (h : IsX w X N len v) (hN : ∀ i : Nat, i < len → N' i = N i) : IsX w X N' len v := by
 obtain ⟨a, cap, b, o, rfl, hlc, h1, h2⟩ := h
 exact ⟨a, cap, b, o, rfl, hlc, h1, fun i hi => by rw [hN i hi]; exact h2 i hi⟩
def cellsN (N : Int → Int) (n : Nat) : List Value := (List.range n).map fun j : Nat => Value.int .i64 (N j)
theorem cellsN_get {N : Int → Int} {n j : Nat} (h : j < n) : (cellsN N n)[j]? = some (.int .i64 (N j)) := by simp [cellsN, h]
theorem cellsN_len (N : Int → Int) (n : Nat) : (cellsN N n).length = n := by simp [cellsN]
def thenN (N : Int → Int) (n : Nat) (N' : Int → Int) : Int → Int := fun j => if j < n then N j else N' (j - n)
theorem cellsN_app (N N' : Int → Int) (n m : Nat) : cellsN N n ++ cellsN N' m = cellsN (thenN N n N') (n + m) := by
 apply List.ext_getElem?
 intro j
 rcases Nat.lt_or_ge j n with h | h
 ·rw [List.getElem?_append_left (by rw [cellsN_len]; exact h), cellsN_get h, cellsN_get (by omega)]
  unfold thenN
  rw [if_pos (by omega)]
 ·rw [List.getElem?_append_right (by rw [cellsN_len]; exact h), cellsN_len]
  rcases Nat.lt_or_ge j (n + m) with h2 | h2
  ·rw [cellsN_get (by omega), cellsN_get h2]
   unfold thenN
   rw [if_neg (by omega), show ((j - n : Nat) : Int) = (j : Int) - n by omega]
  ·rw [List.getElem?_eq_none (by rw [cellsN_len]; omega), List.getElem?_eq_none (by rw [cellsN_len]; omega)]
theorem ownN_isX {w : World} {base n : Nat} {N : Int → Int} {v : Value} {X : Nat → Prop} (h : w.ownsRow base 3 1 v n (cellsN N n)) (hX : ∀ i, X i → i < base) : IsX w X N n v := by
 have hrow := h
 rcases h.2 with ⟨rfl, rfl⟩ | ⟨g, cap, cur, rfl, hb, hg, hnc, -⟩
 ·exact ⟨none, 0, 0, 0, rfl, Nat.le_refl _, fun h => by omega, fun i hi => by omega⟩
 ·refine ⟨_, cap, g, 0, rfl, hnc, fun _ => ⟨rfl, fun hx => ?_, (block_of_cells hg).1⟩, fun i hi => ?_⟩
  ·have := hX _ hx
   omega
  ·have := hrow.cells (g := g) rfl i _ (cellsN_get hi)
   have hadd : (⟨g, 0, none⟩ : Addr).add i = ⟨g, i, none⟩ := by unfold Addr.add; split <;> simp_all
   rw [hadd] at this
   rw [Nat.zero_add]
   exact this
theorem ints_append {W : World} {base n m c : Nat} {N N' : Int → Int} {v : Value} {ao : Option Addr} (h : W.ownsRow base 3 1 v n (cellsN N n)) (hs : IsX W (fun i => v.ownBlock = some i) N' m (.slice ao m c)) (hbase : base ≤ W.heap.size) (hl : n + m ≤ 1000) :
  ∃ v' W', (Builtin.append_ #[28, 28] 28 #[v, .slice ao m c]).run Tryz.prog W = .ok v' W' ∧ W'.ownsRow base 3 1 v' (n + m) (cellsN (thenN N n N') (n + m)) ∧ W.grownBy W' v.ownBlock ∧ (v'.ownBlock = v.ownBlock ∨ v'.ownBlock = some W.heap.size) := by
 obtain ⟨i0, hi0, hz0, hz1, hz2⟩ := info_parts info_int
 have ht := Tryz.underlying28
 by_cases h0 : m = 0
 ·subst h0
  refine ⟨v, W, ?_, ?_, ⟨rfl, rfl, rfl, Nat.le_refl _, fun _ _ _ => rfl⟩, Or.inl rfl⟩
  ·rcases h.2 with ⟨rfl, -⟩ | ⟨g, cap, cur, rfl, -, -, hnc, -⟩
   ·cases ao <;> simp [Builtin.append_, run_underlying ht, sizeOf, typeInfo, hi0, Builtin.lenOf, Builtin.firstCells, storeCells, loadCells, loadCellsFrom]
   ·cases ao <;> simp [Builtin.append_, run_underlying ht, sizeOf, typeInfo, hi0, Builtin.lenOf, Builtin.firstCells, hnc, storeCells, loadCells, loadCellsFrom]
  ·rw [← cellsN_app]
   simpa [cellsN] using h
 ·obtain ⟨a, cap', b, o, he, -, hp, hc⟩ := hs
  cases he
  obtain ⟨rfl, hnx, hbw⟩ := hp (by omega)
  have hadd : ∀ j, (⟨b, o, none⟩ : Addr).add j = ⟨b, o + j, none⟩ := fun j => by unfold Addr.add; split <;> simp_all
  obtain ⟨g, cap, w', hrun, hown, hgrow, hat, -⟩ := run_append_lies (P := Tryz.prog) (w := W) 28 28 base 3 i0 _ 1 8 ht hi0 hz0 hz1 hz2 rfl (by omega) v n (cellsN N n) h ⟨b, o, none⟩ m c (cellsN N' m) (by rw [cellsN_len]; omega) (fun j u hu => by
   rcases Nat.lt_or_ge j m with hj | hj
   ·rw [cellsN_get hj] at hu
    cases hu
    rw [hadd]
    exact hc j hj
   ·rw [List.getElem?_eq_none (by rw [cellsN_len]; exact hj)] at hu
    cases hu) (fun u hu => by
   simp only [cellsN, List.mem_map] at hu
   obtain ⟨j, -, rfl⟩ := hu
   rfl) (by omega) (by unfold maxLen; omega) (by omega) hbase _ rfl
  refine ⟨_, w', hrun, ?_, hgrow, ?_⟩
  ·rw [← cellsN_app]
   exact hown
  ·rcases hat with hat | hat
   ·exact Or.inl (by rw [hat]; rfl)
   ·exact Or.inr (by rw [hat]; rfl)
def Sm (u : Value) : Prop := ∃ b o n c, u = .slice (some ⟨b, o, none⟩) n c
def RowP (base : Nat) (L : List ((Int → Int) × Nat)) (v : Value) (w : World) : Prop :=
 ∃ vs : List Value, vs.length = L.length ∧ w.ownsRow base 28 1 v L.length vs ∧ ∀ j (h : j < L.length), ∃ u, vs[j]? = some u ∧ IsX w (fun i => v.ownBlock = some i ∨ i < base) L[j].1 L[j].2 u ∧ Sm u
theorem RowP.made (W : World) (base : Nat) (h : base ≤ W.heap.size) : RowP base [] (.slice (some ⟨W.heap.size, 0, none⟩) 0 0) (W.alloc (.cells #[] 28)) := by
 have := World.ownsRow_made W #[] 0 (base := base) (e := 28) (size := 1) h (by simp [maxLen]) rfl
 exact ⟨[], rfl, by simpa using this, fun j h => by simp at h⟩
theorem RowP.form {base : Nat} {L : List ((Int → Int) × Nat)} {v : Value} {w : World} (h : RowP base L v w) : ∃ a cap, v = .slice a L.length cap := by
 obtain ⟨vs, -, h, -⟩ := h
 rcases h.2 with ⟨h1, h2⟩ | ⟨g, cap, _, h1, _⟩
 ·exact ⟨none, 0, by rw [h1, h2]⟩
 ·exact ⟨_, _, h1⟩
theorem RowP.lt {base : Nat} {L : List ((Int → Int) × Nat)} {v : Value} {w : World} (h : RowP base L v w) : ∀ g, v.ownBlock = some g → base ≤ g ∧ g < w.heap.size := by
 obtain ⟨vs, -, h, -⟩ := h
 exact h.lt
theorem RowP.below {base : Nat} {L : List ((Int → Int) × Nat)} {v : Value} {w w' : World} (h : RowP base L v w) (hb : Below w.heap.size w w') : RowP base L v w' := by
 obtain ⟨vs, h1, h2, h3⟩ := h
 exact ⟨vs, h1, h2.kept (grown_none hb) (by cases v.ownBlock <;> simp), fun j hj => by
  obtain ⟨u, k1, k2, k3⟩ := h3 j hj
  exact ⟨u, k1, k2.below hb, k3⟩⟩
theorem RowP.push {base : Nat} {L : List ((Int → Int) × Nat)} {v v' u : Value} {W W2 w1 : World} {N : Int → Int} {len : Nat} {vs : List Value} (h1 : vs.length = L.length) (h3 : ∀ j (h : j < L.length), ∃ u, vs[j]? = some u ∧ IsX W (fun i => v.ownBlock = some i ∨ i < base) L[j].1 L[j].2 u ∧ Sm u) (hs : IsX W (fun i => v.ownBlock = some i ∨ i < base) N len u) (hsm : Sm u)
  (hW : Below W.heap.size W W2) (hown : w1.ownsRow base 28 1 v' (L.length + 1) (vs ++ [u])) (hgrow : W2.grownBy w1 v.ownBlock) (hat : v'.ownBlock = v.ownBlock ∨ ∃ g, v'.ownBlock = some g ∧ W.heap.size ≤ g) : RowP base (L ++ [(N, len)]) v' w1 := by
 have key : ∀ (N : Int → Int) (len : Nat) (u : Value), IsX W (fun i => v.ownBlock = some i ∨ i < base) N len u → IsX w1 (fun i => v'.ownBlock = some i ∨ i < base) N len u := fun N len u h => h.to fun b hx hb => by
  have hb2 : b < W2.heap.size := Nat.lt_of_lt_of_le hb hW.size
  refine ⟨fun hx' => ?_, Nat.lt_of_lt_of_le hb2 hgrow.size, fun o => (World.cell?_of_block (hgrow.block b hb2 (fun e => hx (Or.inl e.symm)))).trans (hW.cell (p := ⟨b, o, none⟩) hb)⟩
  rcases hx' with hx' | hx'
  rotate_left
  ·exact hx (Or.inr hx')
  rcases hat with hat | ⟨g, hg, hge⟩
  ·exact hx (Or.inl (hat ▸ hx'))
  ·rw [hg] at hx'
   injection hx' with e
   omega
 refine ⟨vs ++ [u], by simp [h1], by rw [List.length_append]; exact hown, fun j hj => ?_⟩
 rw [List.length_append, List.length_singleton] at hj
 rcases Nat.lt_or_ge j L.length with hlt | hge
 ·obtain ⟨x, k1, k2, k3⟩ := h3 j hlt
  refine ⟨x, by rw [List.getElem?_append_left (by omega)]; exact k1, ?_, k3⟩
  rw [List.getElem_append_left hlt]
  exact key _ _ _ k2
 ·have e : j = L.length := by omega
  subst e
  refine ⟨u, by rw [List.getElem?_append_right (by omega), h1]; simp, ?_, hsm⟩
  rw [List.getElem_append_right (Nat.le_refl _)]
  simp only [Nat.sub_self, List.getElem_cons_zero]
  exact key _ _ _ hs
end Go.Proofs.YtpddjebdncaceaaGreat
namespace Go.Proofs.YtpddjebdncaceaaGreat
mutual
def Tm.nodesFrom : Tm → List (Tm × Nat) → List (List (Tm × Nat) × Tm)
 | .mk k n l, p => (p, .mk k n l) :: kidsFrom (.mk k n l) l 0 p
def kidsFrom : Tm → List Tm → Nat → List (Tm × Nat) → List (List (Tm × Nat) × Tm)
 | _, [], _, _ => []
 | t0, t :: l, i, p => t.nodesFrom (p ++ [(t0, i)]) ++ kidsFrom t0 l (i + 1) p
end
def climbR : List (Tm × Nat) → Option (List (Tm × Nat) × Tm)
 | [] => none
 | (y, i) :: r => if i + 1 < y.kids.length then some (r.reverse ++ [(y, i + 1)], kidT y (i + 1)) else climbR r
def climb (p : List (Tm × Nat)) : Option (List (Tm × Nat) × Tm) := climbR p.reverse
theorem climb_nil : climb [] = none := rfl
theorem climb_snoc (p : List (Tm × Nat)) (y : Tm) (i : Nat) : climb (p ++ [(y, i)]) = if i + 1 < y.kids.length then some (p ++ [(y, i + 1)], kidT y (i + 1)) else climb p := by
 unfold climb
 rw [List.reverse_append]
 simp only [List.reverse_cons, List.reverse_nil, List.nil_append, List.cons_append, climbR, List.reverse_reverse]
def nextAt (y : List (Tm × Nat) × Tm) : Option (List (Tm × Nat) × Tm) := if 0 < y.2.kids.length then some (y.1 ++ [(y.2, 0)], kidT y.2 0) else climb y.1
def RunsTo : List (List (Tm × Nat) × Tm) → Option (List (Tm × Nat) × Tm) → Prop
 | [], _ => False
 | [a], e => nextAt a = e
 | a :: b :: l, e => nextAt a = some b ∧ RunsTo (b :: l) e
theorem RunsTo.append {b : List (Tm × Nat) × Tm} {B : List (List (Tm × Nat) × Tm)} {e : Option (List (Tm × Nat) × Tm)} (hB : RunsTo (b :: B) e) : ∀ {A : List (List (Tm × Nat) × Tm)}, RunsTo A (some b) → RunsTo (A ++ b :: B) e
 | [], h => h.elim
 | [_], h => ⟨h, hB⟩
 | _ :: a :: A, h => ⟨h.1, RunsTo.append hB (A := a :: A) h.2⟩
theorem RunsTo.get {e : Option (List (Tm × Nat) × Tm)} : ∀ {L : List (List (Tm × Nat) × Tm)}, RunsTo L e → ∀ k (h : k + 1 < L.length), nextAt (L[k]'(by omega)) = some L[k + 1]
 | [], h, _, _ => h.elim
 | [_], _, k, h => by simp at h
 | _ :: _ :: _, h, 0, _ => h.1
 | _ :: b :: l, h, k + 1, hk => by
  have := RunsTo.get (L := b :: l) h.2 k (by simpa using hk)
  simpa using this
theorem RunsTo.last {e : Option (List (Tm × Nat) × Tm)} : ∀ {L : List (List (Tm × Nat) × Tm)}, RunsTo L e → ∀ k (h : k < L.length), k + 1 = L.length → nextAt L[k] = e
 | [], h, _, _, _ => h.elim
 | [_], h, 0, _, _ => h
 | [_], _, k + 1, hk, _ => by simp at hk
 | _ :: _ :: _, _, 0, _, he => by simp at he
 | _ :: b :: l, h, k + 1, hk, he => by
  have := RunsTo.last (L := b :: l) h.2 k (by simpa using hk) (by simpa using he)
  simpa using this
theorem nodesFrom_head (t : Tm) (p : List (Tm × Nat)) : ∃ l, t.nodesFrom p = (p, t) :: l := by
 obtain ⟨k, n, l⟩ := t
 exact ⟨_, by rw [Tm.nodesFrom]⟩
mutual
theorem Tm.nodes_run : ∀ (t : Tm) (p : List (Tm × Nat)), RunsTo (t.nodesFrom p) (climb p)
 | .mk k n l, p => by
  rw [Tm.nodesFrom]
  cases l with
  | nil =>
   rw [kidsFrom]
   show nextAt _ = _
   unfold nextAt
   rw [if_neg (by simp [Tm.kids])]
  | cons x l =>
   obtain ⟨h1, y, L, h2, h3⟩ := kids_run (.mk k n (x :: l)) (x :: l) 0 p (by simp [Tm.kids]) (by simp)
   rw [h2] at h1 ⊢
   refine ⟨?_, h1⟩
   unfold nextAt
   rw [if_pos (by simp [Tm.kids]), h3]
theorem kids_run : ∀ (t0 : Tm) (l : List Tm) (i : Nat) (p : List (Tm × Nat)), t0.kids.drop i = l → l ≠ [] → RunsTo (kidsFrom t0 l i p) (climb p) ∧ ∃ y L, kidsFrom t0 l i p = y :: L ∧ y = (p ++ [(t0, i)], kidT t0 i)
 | _, [], _, _, _, h => absurd rfl h
 | t0, t :: l, i, p, hd, _ => by
  have hi : i < t0.kids.length := by
   rcases Nat.lt_or_ge i t0.kids.length with h | h
   ·exact h
   ·rw [List.drop_eq_nil_of_le h] at hd; cases hd
  have hdd := List.drop_eq_getElem_cons hi
  rw [hd] at hdd
  obtain ⟨ht, hl⟩ := List.cons.inj hdd
  have hk : kidT t0 i = t := by rw [kidT_eq hi, ht]
  have h1 := t.nodes_run (p ++ [(t0, i)])
  rw [climb_snoc] at h1
  obtain ⟨L, hL⟩ := nodesFrom_head t (p ++ [(t0, i)])
  rw [kidsFrom]
  refine ⟨?_, (p ++ [(t0, i)], t), L ++ kidsFrom t0 l (i + 1) p, by rw [hL]; rfl, by rw [hk]⟩
  cases l with
  | nil =>
   rw [kidsFrom, List.append_nil]
   have : ¬ i + 1 < t0.kids.length := by
    intro h
    have h2 : (t0.kids.drop (i + 1)).length = 0 := by rw [← hl]; rfl
    rw [List.length_drop] at h2
    omega
   rw [if_neg this] at h1
   exact h1
  | cons x l =>
   obtain ⟨k1, y, M, k2, k3⟩ := kids_run t0 (x :: l) (i + 1) p hl.symm (by simp)
   have : i + 1 < t0.kids.length := by
    have h2 : 0 < (t0.kids.drop (i + 1)).length := by rw [← hl]; simp
    rw [List.length_drop] at h2
    omega
   rw [if_pos this, ← k3] at h1
   rw [k2] at k1 ⊢
   exact RunsTo.append k1 h1
end
mutual
theorem Tm.nodes_len : ∀ (t : Tm) (p : List (Tm × Nat)), (t.nodesFrom p).length = t.size
 | .mk k n l, p => by
  rw [Tm.nodesFrom, List.length_cons, kids_len (.mk k n l) l 0 p, Tm.size]
  omega
theorem kids_len : ∀ (t0 : Tm) (l : List Tm) (i : Nat) (p : List (Tm × Nat)), (kidsFrom t0 l i p).length = sizes l
 | _, [], _, _ => by rw [kidsFrom, sizes]; rfl
 | t0, t :: l, i, p => by
  rw [kidsFrom, List.length_append, t.nodes_len, kids_len t0 l (i + 1) p, sizes]
end
def NodeOk (H : Nat) (y : List (Tm × Nat) × Tm) : Prop := y.2.Valid ∧ InPath y.1 ∧ (∀ z ∈ y.1, z.1.Valid) ∧ hgts y.2.kids + y.1.length ≤ H
theorem NodeOk.kid {H : Nat} {p : List (Tm × Nat)} {t : Tm} (h : NodeOk H (p, t)) {i : Nat} (hi : i < t.kids.length) : NodeOk H (p ++ [(t, i)], kidT t i) := by
 obtain ⟨h1, h2, h3, h4⟩ := h
 refine ⟨h1.kidT hi, inPath_snoc h2 hi, fun z hz => ?_, ?_⟩
 ·rcases List.mem_append.1 hz with hz | hz
  ·exact h3 z hz
  ·rw [List.mem_singleton.1 hz]; exact h1
 ·have k1 := mem_hgts hi
  have k2 := (t.kids[i]).hgt_eq
  show hgts (kidT t i).kids + (p ++ [(t, i)]).length ≤ H
  rw [kidT_eq hi, List.length_append, List.length_singleton]
  show hgts t.kids[i].kids + (p.length + 1) ≤ H
  have h4' : hgts t.kids + p.length ≤ H := h4
  omega
mutual
theorem Tm.nodes_ok {H : Nat} : ∀ (t : Tm) (p : List (Tm × Nat)), NodeOk H (p, t) → ∀ y ∈ t.nodesFrom p, NodeOk H y
 | .mk k n l, p, h, y, hy => by
  rw [Tm.nodesFrom] at hy
  rcases List.mem_cons.1 hy with rfl | hy
  ·exact h
  ·exact kids_ok (.mk k n l) l 0 p (by simp [Tm.kids]) h y hy
theorem kids_ok {H : Nat} : ∀ (t0 : Tm) (l : List Tm) (i : Nat) (p : List (Tm × Nat)), t0.kids.drop i = l → NodeOk H (p, t0) → ∀ y ∈ kidsFrom t0 l i p, NodeOk H y
 | _, [], _, _, _, _, y, hy => by rw [kidsFrom] at hy; cases hy
 | t0, t :: l, i, p, hd, h, y, hy => by
  have hi : i < t0.kids.length := by
   rcases Nat.lt_or_ge i t0.kids.length with h | h
   ·exact h
   ·rw [List.drop_eq_nil_of_le h] at hd; cases hd
  have hdd := List.drop_eq_getElem_cons hi
  rw [hd] at hdd
  obtain ⟨ht, hl⟩ := List.cons.inj hdd
  have hk : kidT t0 i = t := by rw [kidT_eq hi, ht]
  rw [kidsFrom] at hy
  rcases List.mem_append.1 hy with hy | hy
  ·exact t.nodes_ok (p ++ [(t0, i)]) (hk ▸ h.kid hi) y hy
  ·exact kids_ok t0 l (i + 1) p hl.symm h y hy
end
theorem Tm.Valid.nodes {t : Tm} (h : t.Valid) : ∀ y ∈ t.nodesFrom [], NodeOk (hgts t.kids) y := t.nodes_ok [] ⟨h, trivial, fun z hz => (by cases hz), Nat.le_refl _⟩
theorem NodeOk.short {t : Tm} {y : List (Tm × Nat) × Tm} (h : NodeOk (hgts t.kids) y) (hv : t.Valid) : y.1.length ≤ 29 := by
 have h1 := h.2.2.2
 have h2 := t.hgt_eq
 have h3 := hv.2.1
 omega
end Go.Proofs.YtpddjebdncaceaaGreat
namespace Go.Proofs.YtpddjebdncaceaaGreat
open Go.RowKit
def SeqCells {σ : Type} (F : Fence) (n : Nat) (P : Program) (gf : Nat) (lb : Array Value) (N : Nat) (enc : σ → Array Value) (At : Nat → σ → (Nat → Prop) → World → Prop) (w0 : World) : Prop :=
 ∀ (l : Nat) (J : Nat → (Nat → Prop) → World → Prop) (W : World), Below w0.heap.size w0 W →
  (∀ k M M' A B, J k M A → Step M A B M' → J k M' B) →
  (∀ k M s A, k < N → J k M A → At k s M A → YieldAt F (n - 1) P l (enc s) A fun e B => e = .returned (.bool true) ∧ J (k + 1) M B ∧ At k s M B) →
  J 0 (fun _ => False) W →
  CallsIn F n P gf (#[.func (.yield l) #[] #[]] ++ lb) W fun e B => (∃ v, e = .returned v) ∧ ∃ M, J N M B
theorem wpIn_rangeFunc_cells {σ : Type} {F : Fence} {n : Nat} {P : Program} {g : Operand} {ps : Array Tmp} {assign body : Code} {Q : Exit → Act → World → Prop} {a : Act} {w : World}
  (hro : F.round = none) (h1 : 1 ≤ n) {gf : Nat} {lb : Array Value} (hg : a.eval g = .func (.func gf) #[] lb) (hFg : F.fn gf) (eg : ∀ args w, (callFunc gf args).run P w = .ok (.enter gf args) w)
  {N : Nat} {enc : σ → Array Value} {At : Nat → σ → (Nat → Prop) → World → Prop} {w0 : World} (hseq : SeqCells F (n - 1) P gf lb N enc At w0) (hb0 : Below w0.heap.size w0 w) (hps : ∀ s, (enc s).size = ps.size)
  (I : Nat → (Nat → Prop) → World → Prop)
  (hI : ∀ k M M' A B, I k M A → (∀ i, M i → w.heap.size + 2 ≤ i) → w.heap.size + 2 ≤ A.heap.size → Step M A B M' → I k M' B)
  (hIo : ∀ k M A (o o' : Obj), I k M A → A.heap[w.heap.size + 1]? = some o → o.isCells = false → I k M (A.putObj (w.heap.size + 1) o'))
  (hAo : ∀ k s M A (o o' : Obj), At k s M A → (∀ i, M i → w.heap.size + 2 ≤ i) → A.heap[w.heap.size + 1]? = some o → o.isCells = false → At k s M (A.putObj (w.heap.size + 1) o'))
  (h0 : ∀ W1, Below w.heap.size w W1 → I 0 (fun _ => False) W1)
  (Ax : σ → Act → World → Prop) (hAx : ∀ s a' A (o o' : Obj), Ax s a' A → A.heap[w.heap.size + 1]? = some o → o.isCells = false → Ax s a' (A.putObj (w.heap.size + 1) o'))
  (hassign : ∀ l k s M W (K : Act → World → Prop), k < N → I k M W → At k s M W → (∀ a' W', KeepsFrom w.heap.size W W' → (∀ i, M i → w.heap.size + 2 ≤ i) → I k M W' → At k s M W' → Ax s a' W' → K a' W') →
   (∀ i, M i → w.heap.size + 2 ≤ i) → assign.wpIn (F.inRound l) (n - 1 - 1) P (Exit.then K (fun _ _ _ => False)) { tmps := (ps.zip (enc s)).foldl (fun t (p, v) => t.setIfInBounds p v) a.tmps, defers := [] } W)
  (hbody : ∀ l k s M a' W, k < N → (∀ i, M i → w.heap.size + 2 ≤ i) → w.heap.size + 2 ≤ W.heap.size → I k M W → At k s M W → Ax s a' W →
   body.wpIn (F.inRound l) (n - 1 - 1) P (fun x _ W3 => x = .normal ∧ KeepsFrom w.heap.size W W3 ∧ I (k + 1) M W3 ∧ At k s M W3) a' W)
  (hdone : ∀ M W, I N M W → W.heap[w.heap.size]? = some (.deferred (some [])) → Q .normal { a with defers := { target := .collected w.heap.size, args := #[] } :: a.defers } W) :
  (Code.rangeFunc g ps assign body).wpIn F n P Q a w := by
 refine wpIn_rangeFunc ?_
 intro fn hfn
 rw [hro]
 obtain ⟨rec, hrec⟩ : ∃ rec : LoopState → Option Code → Loop, rec = fun st pe => { state := st, pending := pe, fn, tmps := a.tmps, params := ps, assign, body, defers := w.heap.size } := ⟨_, rfl⟩
 obtain ⟨W1, hW1⟩ : ∃ W1, W1 = (w.alloc (.deferred (some []))).alloc (.loop (rec .ready none)) := ⟨_, rfl⟩
 have hz1 : W1.heap.size = w.heap.size + 2 := by rw [hW1]; simp
 have hL1 : W1.heap[w.heap.size + 1]? = some (.loop (rec .ready none)) := by
  rw [hW1]
  have := World.alloc_heap_new (w.alloc (.deferred (some []))) (.loop (rec .ready none))
  rwa [World.size_alloc] at this
 have hK1 : W1.heap[w.heap.size]? = some (.deferred (some [])) := by
  rw [hW1]
  exact (Below.heap_alloc _ _ _ (by simp)).trans (World.alloc_heap_new w _)
 have hb1 : Below w.heap.size w W1 := by
  rw [hW1]
  exact ((Below.refl _ w).alloc (Nat.le_refl _) _).alloc (by simp) _
 refine ⟨w.heap.size + 1, [{ target := .collected w.heap.size, args := #[] }], W1, { target := .fn (.func gf) lb, args := #[.func (.yield (w.heap.size + 1)) #[] #[]] }, W1, gf,
  #[.func (.yield (w.heap.size + 1)) #[] #[]] ++ lb, W1, ?_, ?_, ?_, ?_, fun _ => h1, ?_⟩
 ·rw [hW1, hrec]
  exact run_enterLoop_outer _ _ _ _ _
 ·simp only [resolve, hg]
  simp [go_sem]
 ·intro f' hf'
  simp [Target.leads] at hf'
  subst hf'
  exact hFg
 ·simp [invoke, go_sem, eg]
 refine (hseq (w.heap.size + 1) (fun k M W => (I k M W ∧ (∀ i, M i → w.heap.size + 2 ≤ i) ∧ w.heap.size + 2 ≤ W.heap.size) ∧ W.heap[w.heap.size + 1]? = some (.loop (rec .ready none)) ∧ W.heap[w.heap.size]? = some (.deferred (some []))) W1 (hb0.trans (hb1.mono hb0.size)) ?steps ?round
  ⟨⟨h0 W1 hb1, fun i h => h.elim, by omega⟩, hL1, hK1⟩).mono ?behind
 case steps =>
  rintro k M M' A B ⟨⟨hi, hM, hz⟩, hl, hd⟩ hst
  refine ⟨⟨hI k M M' A B hi hM hz hst, hst.ge hz hM, Nat.le_trans hz hst.size⟩, ?_, ?_⟩
  ·exact (hst.block _ (by omega) (fun h => by have := hM _ h; omega)).trans hl
  ·exact (hst.block _ (by omega) (fun h => by have := hM _ h; omega)).trans hd
 case round =>
  rintro k M s W hk ⟨⟨hi, hM, hz⟩, hl, hd⟩ hat
  have hy := run_yield (P := P) (args := enc s) hl (by rw [hrec]; exact hps s)
  rw [hrec] at hy
  refine ⟨fn, _, assign, body, hy, roundIn_of_wpIn hfn (hassign _ k s M W _ hk hi hat ?_ hM)⟩
  intro a' Wa hkf _ hia hata hax
  have hla := hkf.same _ _ (by omega) hl rfl
  have hda := hkf.same _ _ (Nat.le_refl _) hd rfl
  have hza : w.heap.size + 2 ≤ Wa.heap.size := Nat.le_trans hz hkf.size
  refine ⟨_, run_beginRound hla (by rw [hrec]), ?_⟩
  have hl2 : (Wa.putObj (w.heap.size + 1) (.loop { rec .ready none with state := .busy })).heap[w.heap.size + 1]? = some (.loop { rec .ready none with state := .busy }) := World.putObj_heap_same (by omega)
  have hd2 : (Wa.putObj (w.heap.size + 1) (.loop { rec .ready none with state := .busy })).heap[w.heap.size]? = some (.deferred (some [])) := (World.putObj_heap_other (by omega)).trans hda
  have hz2 : w.heap.size + 2 ≤ (Wa.putObj (w.heap.size + 1) (.loop { rec .ready none with state := .busy })).heap.size := by simpa [World.putObj] using hza
  refine wpIn_mono (hbody _ k s M a' _ hk hM hz2 (hIo k M Wa _ _ hia hla rfl) (hAo k s M Wa _ _ hata hM hla rfl) (hAx s a' Wa _ _ hax hla rfl)) ?_
  rintro e a3 W3 ⟨rfl, hk3, hi3, hat3⟩
  have hl3 := hk3.same _ _ (by omega) hl2 rfl
  have hd3 := hk3.same _ _ (Nat.le_refl _) hd2 rfl
  have hz3 : w.heap.size + 2 ≤ W3.heap.size := Nat.le_trans hz2 hk3.size
  have hr := run_endRound (P := P) none hl3
  refine ⟨_, _, hr, rfl, ⟨⟨hIo _ M W3 _ _ hi3 hl3 rfl, hM, by simpa [World.putObj] using hz3⟩, ?_, ?_⟩, hAo k s M W3 _ _ hat3 hM hl3 rfl⟩
  ·rw [World.putObj_heap_same (by omega), hrec]
   rfl
  ·exact (World.putObj_heap_other (by omega)).trans hd3
 case behind =>
  rintro e W2 ⟨⟨v, rfl⟩, M, ⟨hi, hM, hz⟩, hl, hd⟩
  refine ⟨none, _, by have := run_endLoop (P := P) hl (by rw [hrec]; simp); rw [hrec] at this; exact this, hdone M _ (hIo N M W2 _ _ hi hl rfl) ((World.putObj_heap_other (by omega)).trans hd)⟩
end Go.Proofs.YtpddjebdncaceaaGreat
