/-
  PlT.
-/
import Derived.Test.YtihlbbbajaepoaaGreatR08
import Derived.Test.YtihlbbbajaepoaaGreatR12
import Derived.Test.YtihlbbbajaepoaaGreatR13
import Derived.Test.YtihlbbbajaepoaaGreatR17
import Derived.Test.YtihlbbbajaepoaaGreatR26
import Derived.Lib.AppendZeros
namespace Go.Proofs.YtihlbbbajaepoaaGreat
open Go.RowKit
set_option linter.unusedSimpArgs false
def IsX (w : World) (X : Nat → Prop) (N : Int → Int) (len : Nat) (v : Value) : Prop :=
 ∃ a cap b o, v = .slice a len cap ∧ len ≤ cap ∧ (0 < len → a = some ⟨b, o, none⟩ ∧ ¬ X b ∧ b < w.heap.size) ∧ ∀ i : Nat, i < len → w.cell? ⟨b, o + i, none⟩ = some (.int .i64 (N i))
theorem IsX.form {w : World} {X : Nat → Prop} {N : Int → Int} {len : Nat} {v : Value} (h : IsX w X N len v) : ∃ a cap, v = .slice a len cap := by
 obtain ⟨a, cap, _, _, h, _⟩ := h
 exact ⟨a, cap, h⟩
theorem IsX.to {w w' : World} {X X' : Nat → Prop} {N : Int → Int} {len : Nat} {v : Value} (h : IsX w X N len v) (hk : ∀ b, ¬ X b → b < w.heap.size → ¬ X' b ∧ b < w'.heap.size ∧ ∀ o, w'.cell? ⟨b, o, none⟩ = w.cell? ⟨b, o, none⟩) : IsX w' X' N len v := by
 obtain ⟨a, cap, b, o, rfl, hlc, h1, h2⟩ := h
 refine ⟨a, cap, b, o, rfl, hlc, fun h0 => ?_, fun i hi => ?_⟩
 ·obtain ⟨e, hx, hb⟩ := h1 h0
  obtain ⟨k1, k2, -⟩ := hk b hx hb
  exact ⟨e, k1, k2⟩
 ·obtain ⟨-, hx, hb⟩ := h1 (by omega)
  obtain ⟨-, -, k3⟩ := hk b hx hb
  exact (k3 _).trans (h2 i hi)
theorem IsX.below {w w' : World} {X : Nat → Prop} {N : Int → Int} {len : Nat} {v : Value} (h : IsX w X N len v) (hb : Below w.heap.size w w') : IsX w' X N len v :=
 h.to fun b hx hbw => ⟨hx, Nat.lt_of_lt_of_le hbw hb.size, fun o => hb.cell (p := ⟨b, o, none⟩) hbw⟩
theorem IsX.congr {w : World} {X : Nat → Prop} {N N' : Int → Int} {len : Nat} {v : Value} (h : IsX w X N len v) (hN : ∀ i : Nat, i < len → N' i = N i) : IsX w X N' len v := by
 obtain ⟨a, cap, b, o, rfl, hlc, h1, h2⟩ := h
 exact ⟨a, cap, b, o, rfl, hlc, h1, fun i hi => by rw [hN i hi]; exact h2 i hi⟩
def cellsN (N : Int → Int) (n : Nat) : List Value := (List.range n).map fun j : Nat => Value.int .i64 (N j)
theorem cellsN_get {N : Int → Int} {n j : Nat} (h : j < n) : (cellsN N n)[j]? = some (.int .i64 (N j)) := by simp [cellsN, h]
theorem cellsN_len (N : Int → Int) (n : Nat) : (cellsN N n).length = n := by simp [cellsN]
def thenN (N : Int → Int) (n : Nat) (N' : Int → Int) : Int → Int := fun j => if j < n then N j else N' (j - n)
theorem cellsN_app (N N' : Int → Int) (n m : Nat) : cellsN N n ++ cellsN N' m = cellsN (thenN N n N') (n + m) := by
 apply List.ext_getElem?
 intro j
 rcases Nat.lt_or_ge j n with h | h
 ·rw [List.getElem?_append_left (by rw [cellsN_len]; exact h), cellsN_get h, cellsN_get (by omega)]
  unfold thenN
  rw [if_pos (by omega)]
 ·rw [List.getElem?_append_right (by rw [cellsN_len]; exact h), cellsN_len]
  rcases Nat.lt_or_ge j (n + m) with h2 | h2
  ·rw [cellsN_get (by omega), cellsN_get h2]
   unfold thenN
   rw [if_neg (by omega), show ((j - n : Nat) : Int) = (j : Int) - n by omega]
  ·rw [List.getElem?_eq_none (by rw [cellsN_len]; omega), List.getElem?_eq_none (by rw [cellsN_len]; omega)]
theorem ownN_isX {w : World} {base n : Nat} {N : Int → Int} {v : Value} {X : Nat → Prop} (h : w.ownsRow base 3 1 v n (cellsN N n)) (hX : ∀ i, X i → i < base) : IsX w X N n v := by
 have hrow := h
 rcases h.2 with ⟨rfl, rfl⟩ | ⟨g, cap, cur, rfl, hb, hg, hnc, -⟩
 ·exact ⟨none, 0, 0, 0, rfl, Nat.le_refl _, fun h => by omega, fun i hi => by omega⟩
 ·refine ⟨_, cap, g, 0, rfl, hnc, fun _ => ⟨rfl, fun hx => ?_, (block_of_cells hg).1⟩, fun i hi => ?_⟩
  ·have := hX _ hx
   omega
  ·have := hrow.cells (g := g) rfl i _ (cellsN_get hi)
   have hadd : (⟨g, 0, none⟩ : Addr).add i = ⟨g, i, none⟩ := by unfold Addr.add; split <;> simp_all
   rw [hadd] at this
   rw [Nat.zero_add]
   exact this
theorem ints_append {W : World} {base n m c : Nat} {N N' : Int → Int} {v : Value} {ao : Option Addr} (h : W.ownsRow base 3 1 v n (cellsN N n)) (hs : IsX W (fun i => v.ownBlock = some i) N' m (.slice ao m c)) (hbase : base ≤ W.heap.size) (hl : n + m ≤ 1000) :
  ∃ v' W', (Builtin.append_ #[28, 28] 28 #[v, .slice ao m c]).run Tryz.prog W = .ok v' W' ∧ W'.ownsRow base 3 1 v' (n + m) (cellsN (thenN N n N') (n + m)) ∧ W.grownBy W' v.ownBlock ∧ (v'.ownBlock = v.ownBlock ∨ v'.ownBlock = some W.heap.size) := by
 obtain ⟨i0, hi0, hz0, hz1, hz2⟩ := info_parts info_int
 have ht := Tryz.underlying28
 by_cases h0 : m = 0
 ·subst h0
  refine ⟨v, W, ?_, ?_, ⟨rfl, rfl, rfl, Nat.le_refl _, fun _ _ _ => rfl⟩, Or.inl rfl⟩
  ·rcases h.2 with ⟨rfl, -⟩ | ⟨g, cap, cur, rfl, -, -, hnc, -⟩
   ·cases ao <;> simp [Builtin.append_, run_underlying ht, sizeOf, typeInfo, hi0, Builtin.lenOf, Builtin.firstCells, storeCells, loadCells, loadCellsFrom]
   ·cases ao <;> simp [Builtin.append_, run_underlying ht, sizeOf, typeInfo, hi0, Builtin.lenOf, Builtin.firstCells, hnc, storeCells, loadCells, loadCellsFrom]
  ·rw [← cellsN_app]
   simpa [cellsN] using h
 ·obtain ⟨a, cap', b, o, he, -, hp, hc⟩ := hs
  cases he
  obtain ⟨rfl, hnx, hbw⟩ := hp (by omega)
  have hadd : ∀ j, (⟨b, o, none⟩ : Addr).add j = ⟨b, o + j, none⟩ := fun j => by unfold Addr.add; split <;> simp_all
  obtain ⟨g, cap, w', hrun, hown, hgrow, hat, -⟩ := run_append_lies (P := Tryz.prog) (w := W) 28 28 base 3 i0 _ 1 8 ht hi0 hz0 hz1 hz2 rfl (by omega) v n (cellsN N n) h ⟨b, o, none⟩ m c (cellsN N' m) (by rw [cellsN_len]; omega) (fun j u hu => by
   rcases Nat.lt_or_ge j m with hj | hj
   ·rw [cellsN_get hj] at hu
    cases hu
    rw [hadd]
    exact hc j hj
   ·rw [List.getElem?_eq_none (by rw [cellsN_len]; exact hj)] at hu
    cases hu) (fun u hu => by
   simp only [cellsN, List.mem_map] at hu
   obtain ⟨j, -, rfl⟩ := hu
   rfl) (by omega) (by unfold maxLen; omega) (by omega) hbase _ rfl
  refine ⟨_, w', hrun, ?_, hgrow, ?_⟩
  ·rw [← cellsN_app]
   exact hown
  ·rcases hat with hat | hat
   ·exact Or.inl (by rw [hat]; rfl)
   ·exact Or.inr (by rw [hat]; rfl)
def Sm (u : Value) : Prop := ∃ b o n c, u = .slice (some ⟨b, o, none⟩) n c
def RowP (base : Nat) (L : List ((Int → Int) × Nat)) (v : Value) (w : World) : Prop :=
 ∃ vs : List Value, vs.length = L.length ∧ w.ownsRow base 28 1 v L.length vs ∧ ∀ j (h : j < L.length), ∃ u, vs[j]? = some u ∧ IsX w (fun i => v.ownBlock = some i ∨ i < base) L[j].1 L[j].2 u ∧ Sm u
theorem RowP.made (W : World) (base : Nat) (h : base ≤ W.heap.size) : RowP base [] (.slice (some ⟨W.heap.size, 0, none⟩) 0 0) (W.alloc (.cells #[] 28)) := by
 have := World.ownsRow_made W #[] 0 (base := base) (e := 28) (size := 1) h (by simp [maxLen]) rfl
 exact ⟨[], rfl, by simpa using this, fun j h => by simp at h⟩
theorem RowP.form {base : Nat} {L : List ((Int → Int) × Nat)} {v : Value} {w : World} (h : RowP base L v w) : ∃ a cap, v = .slice a L.length cap := by
 obtain ⟨vs, -, h, -⟩ := h
 rcases h.2 with ⟨h1, h2⟩ | ⟨g, cap, _, h1, _⟩
 ·exact ⟨none, 0, by rw [h1, h2]⟩
 ·exact ⟨_, _, h1⟩
theorem RowP.lt {base : Nat} {L : List ((Int → Int) × Nat)} {v : Value} {w : World} (h : RowP base L v w) : ∀ g, v.ownBlock = some g → base ≤ g ∧ g < w.heap.size := by
 obtain ⟨vs, -, h, -⟩ := h
 exact h.lt
theorem RowP.below {base : Nat} {L : List ((Int → Int) × Nat)} {v : Value} {w w' : World} (h : RowP base L v w) (hb : Below w.heap.size w w') : RowP base L v w' := by
 obtain ⟨vs, h1, h2, h3⟩ := h
 exact ⟨vs, h1, h2.kept (grown_none hb) (by cases v.ownBlock <;> simp), fun j hj => by
  obtain ⟨u, k1, k2, k3⟩ := h3 j hj
  exact ⟨u, k1, k2.below hb, k3⟩⟩
theorem RowP.push {base : Nat} {L : List ((Int → Int) × Nat)} {v v' u : Value} {W W2 w1 : World} {N : Int → Int} {len : Nat} {vs : List Value} (h1 : vs.length = L.length) (h3 : ∀ j (h : j < L.length), ∃ u, vs[j]? = some u ∧ IsX W (fun i => v.ownBlock = some i ∨ i < base) L[j].1 L[j].2 u ∧ Sm u) (hs : IsX W (fun i => v.ownBlock = some i ∨ i < base) N len u) (hsm : Sm u)
  (hW : Below W.heap.size W W2) (hown : w1.ownsRow base 28 1 v' (L.length + 1) (vs ++ [u])) (hgrow : W2.grownBy w1 v.ownBlock) (hat : v'.ownBlock = v.ownBlock ∨ ∃ g, v'.ownBlock = some g ∧ W.heap.size ≤ g) : RowP base (L ++ [(N, len)]) v' w1 := by
 have key : ∀ (N : Int → Int) (len : Nat) (u : Value), IsX W (fun i => v.ownBlock = some i ∨ i < base) N len u → IsX w1 (fun i => v'.ownBlock = some i ∨ i < base) N len u := fun N len u h => h.to fun b hx hb => by
  have hb2 : b < W2.heap.size := Nat.lt_of_lt_of_le hb hW.size
  refine ⟨fun hx' => ?_, Nat.lt_of_lt_of_le hb2 hgrow.size, fun o => (World.cell?_of_block (hgrow.block b hb2 (fun e => hx (Or.inl e.symm)))).trans (hW.cell (p := ⟨b, o, none⟩) hb)⟩
  rcases hx' with hx' | hx'
  rotate_left
  ·exact hx (Or.inr hx')
  rcases hat with hat | ⟨g, hg, hge⟩
  ·exact hx (Or.inl (hat ▸ hx'))
  ·rw [hg] at hx'
   injection hx' with e
   omega
 refine ⟨vs ++ [u], by simp [h1], by rw [List.length_append]; exact hown, fun j hj => ?_⟩
 rw [List.length_append, List.length_singleton] at hj
 rcases Nat.lt_or_ge j L.length with hlt | hge
 ·obtain ⟨x, k1, k2, k3⟩ := h3 j hlt
  refine ⟨x, by rw [List.getElem?_append_left (by omega)]; exact k1, ?_, k3⟩
  rw [List.getElem_append_left hlt]
  exact key _ _ _ k2
 ·have e : j = L.length := by omega
  subst e
  refine ⟨u, by rw [List.getElem?_append_right (by omega), h1]; simp, ?_, hsm⟩
  rw [List.getElem_append_right (Nat.le_refl _)]
  simp only [Nat.sub_self, List.getElem_cons_zero]
  exact key _ _ _ hs
end Go.Proofs.YtihlbbbajaepoaaGreat
