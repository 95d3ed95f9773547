/-
  RowM.
-/
import Derived.Test.YtcnpenmhngplfaaB31
import Derived.Test.YtcnpenmhngplfaaB32
import Derived.Lib.AppendZeros
namespace Go.Proofs.Ytcnpenmhngplfaa
open Go.RowKit
set_option linter.unusedSimpArgs false
theorem cellsL_many : ∀ r : List (Tm × Value), (cellsL r).length = r.length * 3
 | [] => rfl
 | (t, s) :: r => by simp only [cellsL, List.length_cons, cellsL_many r]; omega
theorem RowT.many {Z base m c : Nat} {l l2 : List Tm} {v : Value} {ao : Option Addr} {W : World} (h : RowT Z base l v W) (hs : SlX W (OffT Z base v) l2 (.slice ao m c)) (hm : l2.length = m) (hbase : base ≤ W.heap.size) (hl : l.length + m ≤ 1000) :
  ∃ v' W', (Builtin.append_ #[23, 23] 23 #[v, .slice ao m c]).run Try.prog W = .ok v' W' ∧ RowT Z base (l ++ l2) v' W' ∧ W.grownBy W' v.ownBlock ∧ (v'.ownBlock = v.ownBlock ∨ v'.ownBlock = some W.heap.size) := by
 obtain ⟨i0, hi0, hz0, hz1, hz2⟩ := info_parts info_termG
 have ht := Try.underlying23
 by_cases h0 : m = 0
 ·have e : l2 = [] := List.length_eq_zero_iff.1 (hm.trans h0)
  subst e
  subst h0
  refine ⟨v, W, ?_, by simpa using h, ⟨rfl, rfl, rfl, Nat.le_refl _, fun _ _ _ => rfl⟩, Or.inl rfl⟩
  obtain ⟨rs, -, h2, -⟩ := h
  rcases h2.2 with ⟨rfl, -⟩ | ⟨g, cap, cur, rfl, -, -, hnc, -⟩
  ·cases ao <;> simp [Builtin.append_, run_underlying ht, sizeOf, typeInfo, hi0, Builtin.lenOf, Builtin.firstCells, storeCells, loadCells, loadCellsFrom]
  ·cases ao <;> simp [Builtin.append_, run_underlying ht, sizeOf, typeInfo, hi0, Builtin.lenOf, Builtin.firstCells, hnc, storeCells, loadCells, loadCellsFrom]
 ·have hne : l2 ≠ [] := fun e => by rw [e] at hm; exact h0 hm.symm
  obtain ⟨rs, h1, h2, h3⟩ := h
  subst hm
  obtain ⟨a, cap', b, o, he, -, hp, -⟩ := SlX.open hs
  cases he
  obtain ⟨rfl, -⟩ := hp hne
  obtain ⟨r, hr, hcell, hx⟩ := hs.list hne
  have hrl : r.length = l2.length := by rw [← hr, List.length_map]
  have hadd : ∀ j, (⟨b, o, none⟩ : Addr).add j = ⟨b, o + j, none⟩ := fun j => by unfold Addr.add; split <;> simp_all
  obtain ⟨g, cap, w', hrun, hown, hgrow, hat, -⟩ := run_append_lies (P := Try.prog) (w := W) 23 23 base 25 i0 _ 3 40 ht hi0 hz0 hz1 hz2 rfl (by omega) v l.length (cellsL rs) h2 ⟨b, o, none⟩ l2.length c (cellsL r) (by rw [cellsL_many, hrl]) (fun j u hu => by rw [hadd]; exact hcell j u hu) (SlX.one hx) (by omega) (by unfold maxLen; omega) (by omega) hbase _ rfl
  refine ⟨_, w', hrun, ⟨rs ++ r, by simp [h1, hr], ?_, fun x hx' => ?_⟩, hgrow, ?_⟩
  ·rw [cellsL_append, List.length_append]
   exact hown
  ·have key : ∀ (x : List Tm) (u : Value), SlX W (OffT Z base v) x u → SlX w' (OffT Z base (.slice (some ⟨g, 0, none⟩) (l.length + l2.length) cap)) x u := fun x u hx => hx.to fun p y hn hc => by
    have hp := World.block_lt_of_cell? W p hc
    refine ⟨?_, (World.cell?_of_block (hgrow.block p.block hp fun e => hn (Or.inr e.symm))).trans hc⟩
    rintro (h | h)
    ·exact hn (Or.inl h)
    ·simp [Value.ownBlock] at h
     rcases hat with hat | hat
     ·exact hn (Or.inr (by rw [hat, h]))
     ·omega
   rcases List.mem_append.1 hx' with hx' | hx'
   ·exact key _ _ (h3 x hx')
   ·exact key _ _ (hx x hx')
  ·rcases hat with hat | hat
   ·exact Or.inl (by rw [hat]; rfl)
   ·exact Or.inr (by rw [hat]; rfl)
end Go.Proofs.Ytcnpenmhngplfaa
