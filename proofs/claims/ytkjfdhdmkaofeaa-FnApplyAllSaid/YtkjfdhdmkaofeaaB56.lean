/-
  RowM.
-/
import Derived.Test.YtkjfdhdmkaofeaaB27
import Derived.Test.YtkjfdhdmkaofeaaB47
import Derived.Lib.AppendZeros
namespace Go.Proofs.Ytkjfdhdmkaofeaa
open Go.RowKit
set_option linter.unusedSimpArgs false
theorem wpList_append_run_g {P : Program} (w : World) {ops : Array Oper} {rest : List Oper} {o : Oper} {a : Act} {Q : Exit → Act → World → Prop} (hw : Region.wanted o (yielded ops a.tmps) = true) (s x : Operand) (t tn : TypeId)
  (ho : o.op = .call { callee := .builtin .append, args := #[s, x], argTypes := #[t, tn] }) (vs vx : Value) (hs : a.eval s = vs) (hx : a.eval x = vx)
  (v' : Value) (w' : World) (hr : (Builtin.append_ #[t, tn] o.type #[vs, vx]).run P w = .ok v' w') (h : wpList P ops Q rest (a.put o.dst v') w') : wpList P ops Q (o :: rest) a w :=
 wpList_step fun K hK => by
  rw [if_pos hw]
  exact Go.Lib.wp_append_run w s x t tn ho vs vx hs hx v' w' hr (hK _ _ h)
theorem cellsL_many : ∀ r : List (Tm × Value), (cellsL r).length = r.length * 3
 | [] => rfl
 | (t, s) :: r => by simp only [cellsL, List.length_cons, cellsL_many r]; omega
theorem RowT.many {Z base m c : Nat} {l l2 : List Tm} {v : Value} {ao : Option Addr} {W : World} (h : RowT Z base l v W) (hs : SlX W (OffT Z base v) l2 (.slice ao m c)) (hm : l2.length = m) (hbase : base ≤ W.heap.size) (hl : l.length + m ≤ 1000) :
  ∃ v' W', (Builtin.append_ #[23, 23] 23 #[v, .slice ao m c]).run Try.prog W = .ok v' W' ∧ RowT Z base (l ++ l2) v' W' ∧ W.grownBy W' v.ownBlock ∧ (v'.ownBlock = v.ownBlock ∨ v'.ownBlock = some W.heap.size) := by
 obtain ⟨i0, hi0, hz0, hz1, hz2⟩ := info_parts info_termG
 have ht := Try.underlying23
 by_cases h0 : m = 0
 ·have e : l2 = [] := List.length_eq_zero_iff.1 (hm.trans h0)
  subst e
  subst h0
  refine ⟨v, W, ?_, by simpa using h, ⟨rfl, rfl, rfl, Nat.le_refl _, fun _ _ _ => rfl⟩, Or.inl rfl⟩
  obtain ⟨rs, -, h2, -⟩ := h
  rcases h2.2 with ⟨rfl, -⟩ | ⟨g, cap, cur, rfl, -, -, hnc, -⟩
  ·cases ao <;> simp [Builtin.append_, run_underlying ht, sizeOf, typeInfo, hi0, Builtin.lenOf, Builtin.firstCells, storeCells, loadCells, loadCellsFrom]
  ·cases ao <;> simp [Builtin.append_, run_underlying ht, sizeOf, typeInfo, hi0, Builtin.lenOf, Builtin.firstCells, hnc, storeCells, loadCells, loadCellsFrom]
 ·have hne : l2 ≠ [] := fun e => by rw [e] at hm; exact h0 hm.symm
  obtain ⟨rs, h1, h2, h3⟩ := h
  subst hm
  obtain ⟨a, cap', b, o, he, -, hp, -⟩ := SlX.open hs
  cases he
  obtain ⟨rfl, -⟩ := hp hne
  obtain ⟨r, hr, hcell, hx⟩ := hs.list hne
  have hrl : r.length = l2.length := by rw [← hr, List.length_map]
  have hadd : ∀ j, (⟨b, o, none⟩ : Addr).add j = ⟨b, o + j, none⟩ := fun j => by unfold Addr.add; split <;> simp_all
  obtain ⟨g, cap, w', hrun, hown, hgrow, hat, -⟩ := run_append_lies (P := Try.prog) (w := W) 23 23 base 25 i0 _ 3 40 ht hi0 hz0 hz1 hz2 rfl (by omega) v l.length (cellsL rs) h2 ⟨b, o, none⟩ l2.length c (cellsL r) (by rw [cellsL_many, hrl]) (fun j u hu => by rw [hadd]; exact hcell j u hu) (SlX.one hx) (by omega) (by unfold maxLen; omega) (by omega) hbase _ rfl
  refine ⟨_, w', hrun, ⟨rs ++ r, by simp [h1, hr], ?_, fun x hx' => ?_⟩, hgrow, ?_⟩
  ·rw [cellsL_append, List.length_append]
   exact hown
  ·have key : ∀ (x : List Tm) (u : Value), SlX W (OffT Z base v) x u → SlX w' (OffT Z base (.slice (some ⟨g, 0, none⟩) (l.length + l2.length) cap)) x u := fun x u hx => hx.to fun p y hn hc => by
    have hp := World.block_lt_of_cell? W p hc
    refine ⟨?_, (World.cell?_of_block (hgrow.block p.block hp fun e => hn (Or.inr e.symm))).trans hc⟩
    rintro (h | h)
    ·exact hn (Or.inl h)
    ·simp [Value.ownBlock] at h
     rcases hat with hat | hat
     ·exact hn (Or.inr (by rw [hat, h]))
     ·omega
   rcases List.mem_append.1 hx' with hx' | hx'
   ·exact key _ _ (h3 x hx')
   ·exact key _ _ (hx x hx')
  ·rcases hat with hat | hat
   ·exact Or.inl (by rw [hat]; rfl)
   ·exact Or.inr (by rw [hat]; rfl)
theorem append_two {W : World} {l1 l2 : List Tm} {a1 a2 : Option Addr} {c1 c2 : Nat} (h1 : SlIn W 0 l1 (.slice a1 l1.length c1)) (h2 : SlIn W 0 l2 (.slice a2 l2.length c2)) (hl : l1.length + l2.length ≤ 1000) :
  ∃ v1 W1 v2 W2, (Builtin.append_ #[23, 23] 23 #[.slice (some ⟨W.heap.size, 0, none⟩) 0 0, .slice a1 l1.length c1]).run Try.prog (W.alloc (.cells #[] 25)) = .ok v1 W1 ∧
   (Builtin.append_ #[23, 23] 23 #[v1, .slice a2 l2.length c2]).run Try.prog W1 = .ok v2 W2 ∧ SlIn W2 0 (l1 ++ l2) v2 ∧ Below W.heap.size W W2 := by
 have hz : (W.alloc (.cells #[] 25)).heap.size = W.heap.size + 1 := by simp
 have hb0 := below1 W (.cells #[] 25)
 have hr0 : RowT W.heap.size W.heap.size [] (.slice (some ⟨W.heap.size, 0, none⟩) 0 0) (W.alloc (.cells #[] 25)) :=
  ⟨[], rfl, World.ownsRow_lit (base := W.heap.size) (e := 25) (size := 3) W #[] 0 (Nat.le_refl _) (by simp [maxLen]) (by simp), fun x h => (by cases h)⟩
 have lift : ∀ (W' : World) (v : Value) (l : List Tm) (s : Value), Below W.heap.size W W' → (∀ g, v.ownBlock = some g → W.heap.size ≤ g) → SlIn W 0 l s → SlX W' (OffT W.heap.size W.heap.size v) l s := fun W' v l s hb hv h =>
  (SlX.of_sl (X := fun _ => False) h (fun i hi => hi.elim)).to fun p u _ hc => by
   have hp := World.block_lt_of_cell? W p hc
   refine ⟨?_, (hb.cell hp).trans hc⟩
   rintro (h | h)
   ·omega
   ·have := hv _ h; omega
 obtain ⟨v1, W1, e1, r1, g1, o1⟩ := hr0.many (lift _ _ l1 (.slice a1 l1.length c1) hb0 (fun g hg => by simp [Value.ownBlock] at hg; omega) h1) rfl (by omega) (by simp; omega)
 have hb1 : Below W.heap.size W W1 := hb0.grown g1 (by omega) (fun g hg => by simp [Value.ownBlock] at hg; omega)
 obtain ⟨v2, W2, e2, r2, g2, -⟩ := r1.many (lift _ _ l2 (.slice a2 l2.length c2) hb1 (fun g hg => (r1.lt g hg).1) h2) rfl (by have := hb1.size; omega) (by simp; omega)
 have hb2 : Below W.heap.size W W2 := hb1.grown g2 hb1.size (fun g hg => (r1.lt g hg).1)
 refine ⟨v1, W1, v2, W2, e1, e2, ?_, hb2⟩
 have := (r2.done (by simp; unfold maxLen; omega)).sl
 simpa using this
end Go.Proofs.Ytkjfdhdmkaofeaa
