/-
  ContrT, LawL, TrB.
-/
import Derived.Test.YteeafpnjpcgfaaaGreatB18
import Derived.Test.YteeafpnjpcgfaaaGreatB19
import Derived.Test.YteeafpnjpcgfaaaGreatB22
import Derived.Test.YteeafpnjpcgfaaaGreatB23
import Derived.Test.YteeafpnjpcgfaaaGreatB34
import Derived.Test.YteeafpnjpcgfaaaGreatB38
namespace Go.Proofs.YteeafpnjpcgfaaaGreat
open Go.RowKit
set_option linter.unusedVariables false
set_option linter.unusedSimpArgs false
theorem OnlyIn.but {F : List Nat} {a b : World} (h : OnlyIn F a b) : But F a b := ⟨h.os, h.tape, h.output, by rw [h.size]; exact Nat.le_refl _, fun i _ hi => h.block i hi⟩
theorem markL_but (l : List Tm) (F : List Nat) (k : Int) (w : World) (v : Value) (h0 : 0 ≤ k) (h1 : k + 2 * sizes l ≤ 4611686018427387904) (hn : F.Nodup) (h : SlOwn w l v F) :
  Calls Tryz.prog 27 #[v, .int .i64 k] w (MarkTPost F l v k w) :=
 (markS_any l F k w v h0 h1 hn h).mono fun _ _ h => ⟨h.1, h.2.1, h.2.2.but⟩
theorem heldL_any (l : List Tm) (B : Nat) (k : Int) (w : World) (v : Value) (h0 : 0 ≤ k) (h1 : k + 2 * sizes l ≤ 4611686018427387904) (h : SlIn w B (markL l k) v) :
  Calls Tryz.prog 28 #[v, .int .i64 k] w (IntPost' w (k + 2 * sizes l)) :=
 (heldS_any l B k w v h0 h1 h).mono fun _ _ h => ⟨h.1, by rw [← h.2]; exact Below.refl _ _⟩
theorem toO_made (t : Tm) (w : World) (v : Value) (h0 : sizes t.kids ≤ 1048576) (h : TmIn w 0 t v) :
  Calls Tryz.prog 10 #[v] w fun e w' => Below w.heap.size w w' ∧ ∃ a c F, e = .returned (.agg #[.int .i64 t.kind, .int .i64 t.num, .slice a t.kids.length c]) ∧ SlOwn w' t.kids (.slice a t.kids.length c) F ∧ F.Nodup ∧ ∀ g ∈ F, w.heap.size ≤ g ∧ g < w'.heap.size :=
 (toO_any t w v h0 h).mono fun e w' h => by
  obtain ⟨hb, v, rfl, s, F, rfl, hs, hn, hF⟩ := h
  obtain ⟨a, c, rfl⟩ := hs.form
  exact ⟨hb, a, c, F, rfl, hs, hn, hF⟩
end Go.Proofs.YteeafpnjpcgfaaaGreat
namespace Go.Proofs.YteeafpnjpcgfaaaGreat
open Go.RowKit
set_option linter.unusedVariables false
set_option linter.unusedSimpArgs false
theorem lcontract_any (t : Tm) (hr : t.rootOk) (hk : ∀ i (hi : i < t.kids.length), t.kids[i].Valid) (h0 : t.redex ≠ 0) (w : World) (s : Value) (hs : SlIn w 0 t.kids s) :
  Calls Tryz.prog 103 #[.agg #[.int .i64 t.kind, .int .i64 t.num, s]] w (SPost w t.contr) := by
 rcases redex_shape hr h0 with ⟨e, -⟩ | ⟨e, -⟩ | ⟨e, -⟩ | ⟨e, -⟩ | ⟨e, -⟩ | ⟨e, -⟩
 ·exact lcontr1_any t hr hk e w s hs
 ·exact lcontr2_any t hr hk e w s hs
 ·exact lcontr3_any t hr hk e w s hs
 ·exact lcontr4_any t hr hk e w s hs
 ·exact lcontr5_any t hr hk e w s hs
 ·exact lcontr6_any t hr hk e w s hs
end Go.Proofs.YteeafpnjpcgfaaaGreat
namespace Go.Proofs.YteeafpnjpcgfaaaGreat
open Go.RowKit
set_option linter.unusedVariables false
set_option linter.unusedSimpArgs false
theorem setCell_comm (w : World) {p q : Addr} (h : p.block ≠ q.block) (x y : Value) : (w.setCell p x).setCell q y = (w.setCell q y).setCell p x := by
 have hh : ((w.setCell p x).setCell q y).heap = ((w.setCell q y).setCell p x).heap := by
  apply Array.ext_getElem?
  intro i
  by_cases h1 : i = p.block
  ·subst h1
   have h2 : ¬ q.block = p.block := fun e => h e.symm
   simp [World.setCell, Array.getElem?_modify, h2]
  ·by_cases h2 : i = q.block
   ·subst h2
    simp [World.setCell, Array.getElem?_modify, h]
   ·have h1' : ¬ p.block = i := fun e => h1 e.symm
    have h2' : ¬ q.block = i := fun e => h2 e.symm
    simp [World.setCell, Array.getElem?_modify, h1', h2']
 cases w
 simp only [World.setCell] at hh ⊢
 rw [World.mk.injEq]
 simp_all
theorem own_set1 {w : World} {base : Nat} {e : TypeId} {g n cap j : Nat} {xs : List Value} (h : w.ownsRow base e 3 (.slice (some ⟨g, 0, none⟩) n cap) n xs) (hj : j < n * 3) (x : Value) : (w.setCell ⟨g, j, none⟩ x).ownsRow base e 3 (.slice (some ⟨g, 0, none⟩) n cap) n (xs.set j x) := by
 refine ⟨by rw [List.length_set]; exact h.1, ?_⟩
 rcases h.2 with ⟨h1, h2⟩ | ⟨g', cap', cur, h1, hb, hg, hnc, hcm, hcs, htake⟩
 ·cases h1
 ·simp only [Value.slice.injEq, Option.some.injEq, Addr.mk.injEq, and_true, true_and] at h1
  obtain ⟨rfl, rfl⟩ := h1
  refine Or.inr ⟨g, cap, cur.setIfInBounds j x, rfl, hb, block_set hg j x, hnc, hcm, by simpa using hcs, ?_⟩
  rw [Array.toList_setIfInBounds, List.take_set, htake]
theorem set_three (xs : List Value) (a b c a' b' c' : Value) (m : Nat) (hm : xs.length = m) : (((xs ++ [a, b, c]).set m a').set (m + 1) b').set (m + 2) c' = xs ++ [a', b', c'] := by
 subst hm
 simp [List.set_append]
theorem own_set3 {w : World} {base : Nat} {e : TypeId} {g n cap : Nat} {xs : List Value} {a b c : Value} (h : w.ownsRow base e 3 (.slice (some ⟨g, 0, none⟩) (n + 1) cap) (n + 1) (xs ++ [a, b, c])) (a' b' c' : Value) :
  (((w.setCell ⟨g, n * 3, none⟩ a').setCell ⟨g, n * 3 + 1, none⟩ b').setCell ⟨g, n * 3 + 2, none⟩ c').ownsRow base e 3 (.slice (some ⟨g, 0, none⟩) (n + 1) cap) (n + 1) (xs ++ [a', b', c']) := by
 have hl : xs.length = n * 3 := by
  have := h.1
  simp only [List.length_append, List.length_cons, List.length_nil] at this
  omega
 have h3 := own_set1 (own_set1 (own_set1 h (j := n * 3) (by omega) a') (j := n * 3 + 1) (by omega) b') (j := n * 3 + 2) (by omega) c'
 rwa [set_three _ _ _ _ _ _ _ _ hl] at h3
theorem tr_push {B n : Nat} {L : List Tm} {va : Value} {F F2 : List Nat} {Wb w5 : World} {T : Tm} {s : Value} {gg gcap : Nat} {xs : List Value} (hrow : RowG B L va F Wb) (hL : L.length = n) (hxs : Wb.ownsRow B 29 3 va n xs)
  (hs : SlOwn Wb T.kids s F2) (hnd : F2.Nodup) (hF2 : ∀ g ∈ F2, B ≤ g ∧ g < Wb.heap.size ∧ g ∉ F ∧ va.ownBlock ≠ some g)
  (h5 : w5.ownsRow B 29 3 (.slice (some ⟨gg, 0, none⟩) (n + 1) gcap) (n + 1) (xs ++ [.int .i64 0, .int .i64 0, .slice none 0 0])) (hgrow : Wb.grownBy w5 va.ownBlock) (hat : va.ownBlock = some gg ∨ gg = Wb.heap.size) :
  RowG B (L ++ [T]) (.slice (some ⟨gg, 0, none⟩) (n + 1) gcap) (F ++ F2) (((w5.setCell ⟨gg, n * 3, none⟩ (.int .i64 T.kind)).setCell ⟨gg, n * 3 + 1, none⟩ (.int .i64 T.num)).setCell ⟨gg, n * 3 + 2, none⟩ s) ∧
  ∀ i, i < Wb.heap.size → va.ownBlock ≠ some i → (((w5.setCell ⟨gg, n * 3, none⟩ (.int .i64 T.kind)).setCell ⟨gg, n * 3 + 1, none⟩ (.int .i64 T.num)).setCell ⟨gg, n * 3 + 2, none⟩ s).heap[i]? = Wb.heap[i]? := by
 have hkeep : ∀ i, i < Wb.heap.size → va.ownBlock ≠ some i → (((w5.setCell ⟨gg, n * 3, none⟩ (.int .i64 T.kind)).setCell ⟨gg, n * 3 + 1, none⟩ (.int .i64 T.num)).setCell ⟨gg, n * 3 + 2, none⟩ s).heap[i]? = Wb.heap[i]? := fun i hi hn => by
  have hne : i ≠ gg := by
   rintro rfl
   rcases hat with h | h
   ·exact hn h
   ·omega
  rw [Below.heap_setCell _ _ _ _ hne, Below.heap_setCell _ _ _ _ hne, Below.heap_setCell _ _ _ _ hne]
  exact hgrow.block i hi (fun e => hn e.symm)
 refine ⟨?_, hkeep⟩
 obtain ⟨xs', h1, h2⟩ := hrow.grow hL
 have hx : xs' = xs := by
  rcases h1.2 with ⟨e1, e2⟩ | ⟨g, cap, cur, e1, _, r1, _, _, _, r2⟩
  ·have n1 := h1.1
   have n2 := hxs.1
   rw [e2] at n1 n2
   exact (List.length_eq_zero_iff.1 (by simpa using n1)).trans (List.length_eq_zero_iff.1 (by simpa using n2)).symm
  ·rcases hxs.2 with ⟨f1, f2⟩ | ⟨g', cap', cur', f1, _, q1, _, _, _, q2⟩
   ·rw [e1] at f1
    cases f1
   ·rw [e1] at f1
    simp only [Value.slice.injEq, Option.some.injEq, Addr.mk.injEq, and_true, true_and] at f1
    obtain ⟨rfl, rfl⟩ := f1
    rw [r1] at q1
    cases q1
    rw [← r2, ← q2]
 subst hx
 refine h2 _ s F2 _ T hs hnd hF2 (own_set3 h5 _ _ _) ⟨hgrow.os, hgrow.tape, hgrow.output, by simpa [World.setCell] using hgrow.size, fun k hk hn => hkeep k hk (fun e => hn e.symm)⟩ ?_
 rcases hat with h | h
 ·exact Or.inl (by rw [h]; rfl)
 ·exact Or.inr (by rw [h]; rfl)
end Go.Proofs.YteeafpnjpcgfaaaGreat
