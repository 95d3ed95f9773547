/-
  Grow, Pure.
-/
import Derived.Test.YtabbbnddfcbdiaaGreatB08
import Derived.Deep.AppendLies
import Derived.Laws.AppendOwn
import Derived.OwnWalk
import Derived.ProofKit
import Derived.Test.YtabbbnddfcbdiaaGreatProg
import Derived.WalkSpells
namespace Go.Proofs.YtabbbnddfcbdiaaGreat
theorem under_succ (k : Int) (i : Nat) : 0 ≤ under k i := (under_01 k i).1
-- limits and occurrences
-- shifts
mutual
theorem Tm.shift_size (e : Int) : ∀ (t : Tm) (c : Int), (t.shift e c).size = t.size
 | .mk k n l, c => by rw [Tm.shift, Tm.size, Tm.size, shiftL_sizes e l k 0 c]
theorem shiftL_sizes (e : Int) : ∀ (l : List Tm) (k : Int) (i : Nat) (c : Int), sizes (shiftL e k l i c) = sizes l
 | [], _, _, _ => by rw [shiftL]
 | t :: l, k, i, c => by rw [shiftL, sizes, sizes, Tm.shift_size e t, shiftL_sizes e l]
end
mutual
theorem Tm.times_shift (e : Int) : ∀ (t : Tm) (c x : Int), t.keeps e c → (x < c → (t.shift e c).times x = t.times x) ∧ (c ≤ x → c ≤ x + e → (t.shift e c).times (x + e) = t.times x) ∧ (c ≤ x → x + e < c → t.times x = 0)
 | .mk k n l, c, x, h => by
  rw [Tm.keeps] at h
  obtain ⟨h1, h2, h3⟩ := timesL_shift e l k 0 c x h.2
  have hk := h.1
  rw [Tm.shift, Tm.times, Tm.times, Tm.times]
  refine ⟨fun hx => ?_, fun hx hx' => ?_, fun hx hx' => ?_⟩
  ·rw [h1 hx]
   congr 1
   by_cases e1 : k = 1 ∧ c ≤ n
   ·have := hk e1
    rw [if_pos e1, if_neg (by omega), if_neg (by omega)]
   ·rw [if_neg e1]
  ·rw [h2 hx hx']
   congr 1
   by_cases e1 : k = 1 ∧ c ≤ n
   ·rw [if_pos e1]
    by_cases e2 : n = x
    ·rw [if_pos ⟨e1.1, by omega⟩, if_pos ⟨e1.1, e2⟩]
    ·rw [if_neg (by omega), if_neg (by omega)]
   ·rw [if_neg e1, if_neg (by omega), if_neg (by omega)]
  ·rw [h3 hx hx', if_neg]
   ·rfl
   ·rintro ⟨rfl, rfl⟩
    have := hk ⟨rfl, hx⟩
    omega
theorem timesL_shift (e : Int) : ∀ (l : List Tm) (k : Int) (i : Nat) (c x : Int), keepsL e k l i c → (x < c → timesL k (shiftL e k l i c) i x = timesL k l i x) ∧ (c ≤ x → c ≤ x + e → timesL k (shiftL e k l i c) i (x + e) = timesL k l i x) ∧ (c ≤ x → x + e < c → timesL k l i x = 0)
 | [], _, _, _, _, _ => by simp [shiftL, timesL]
 | t :: l, k, i, c, x, h => by
  rw [keepsL] at h
  obtain ⟨h1, h2, h3⟩ := timesL_shift e l k (i + 1) c x h.2
  obtain ⟨g1, g2, g3⟩ := Tm.times_shift e t (c + under k i) (x + under k i) h.1
  rw [shiftL, timesL, timesL, timesL]
  refine ⟨fun hx => by rw [h1 hx, g1 (by omega)], fun hx hx' => ?_, fun hx hx' => by rw [h3 hx hx', g3 (by omega) (by omega)]; rfl⟩
  rw [h2 hx hx', show x + e + under k i = x + under k i + e by omega, g2 (by omega) (by omega)]
end
mutual
theorem Tm.most_shift (e : Int) : ∀ (t : Tm) (b : Int), t.keeps e b → (t.most b = 0 → t.shift e b = t) ∧ (0 < t.most b → (t.shift e b).most b = t.most b + e ∧ 0 < t.most b + e) ∧ 0 ≤ t.most b
 | .mk k n l, b, h => by
  rw [Tm.keeps] at h
  obtain ⟨h1, h2, h3⟩ := mostL_shift e l k 0 b h.2
  have hk := h.1
  rw [Tm.shift, Tm.most, Tm.most]
  by_cases e1 : k = 1 ∧ b ≤ n
  ·have e2 : k = 1 ∧ b ≤ n + e := ⟨e1.1, hk e1⟩
   simp only [if_pos e1, if_pos e2]
   refine ⟨fun hm => by omega, fun hm => ?_, by omega⟩
   by_cases hz : mostL k l 0 b = 0
   ·rw [h1 hz, hz]; omega
   ·obtain ⟨h4, h5⟩ := h2 (by omega)
    rw [h4]; omega
  ·simp only [if_neg e1]
   refine ⟨fun hm => by rw [h1 (by omega)], fun hm => ?_, by omega⟩
   obtain ⟨h4, h5⟩ := h2 (by omega)
   rw [h4]; omega
theorem mostL_shift (e : Int) : ∀ (l : List Tm) (k : Int) (i : Nat) (b : Int), keepsL e k l i b → (mostL k l i b = 0 → shiftL e k l i b = l) ∧ (0 < mostL k l i b → mostL k (shiftL e k l i b) i b = mostL k l i b + e ∧ 0 < mostL k l i b + e) ∧ 0 ≤ mostL k l i b
 | [], _, _, _, _ => by rw [shiftL, mostL]; exact ⟨fun _ => rfl, fun h => by omega, by omega⟩
 | t :: l, k, i, b, h => by
  rw [keepsL] at h
  obtain ⟨h1, h2, h3⟩ := mostL_shift e l k (i + 1) b h.2
  obtain ⟨g1, g2, g3⟩ := Tm.most_shift e t (b + under k i) h.1
  rw [shiftL, mostL, mostL]
  refine ⟨fun hm => by rw [h1 (by omega), g1 (by omega)], fun hm => ?_, by omega⟩
  by_cases ha : t.most (b + under k i) = 0
  ·rw [g1 ha, ha]
   obtain ⟨h4, h5⟩ := h2 (by omega)
   rw [h4]; omega
  ·obtain ⟨g4, g5⟩ := g2 (by omega)
   rw [g4]
   by_cases hz : mostL k l (i + 1) b = 0
   ·rw [h1 hz, hz]; omega
   ·obtain ⟨h4, h5⟩ := h2 (by omega)
    rw [h4]; omega
end
-- substitutions
mutual
theorem Tm.subst_closed (u : Tm) : ∀ (t : Tm) (b d : Int), t.most b = 0 → t.subst u b d = t
 | .mk k n l, b, d, h => by
  have hs := fun h => substL_closed u l k 0 b d h
  have hb := mostL_ge l k 0 b
  rw [Tm.most] at h
  have e1 : ¬ (k = 1 ∧ b ≤ n) := fun e => by rw [if_pos e] at h; omega
  rw [if_neg e1] at h
  rw [Tm.subst, if_neg (by omega), if_neg (by omega), hs (by omega)]
theorem substL_closed (u : Tm) : ∀ (l : List Tm) (k : Int) (i : Nat) (b d : Int), mostL k l i b = 0 → substL u k l i b d = l
 | [], _, _, _, _, _ => by rw [substL]
 | t :: l, k, i, b, d, h => by
  have h1 := Tm.most_ge t (b + under k i)
  have h2 := mostL_ge l k (i + 1) b
  rw [mostL] at h
  rw [substL, Tm.subst_closed u t _ _ (by omega), substL_closed u l k _ b d (by omega)]
theorem Tm.most_ge : ∀ (t : Tm) (b : Int), 0 ≤ t.most b
 | .mk k n l, b => by have := mostL_ge l k 0 b; rw [Tm.most]; omega
theorem mostL_ge : ∀ (l : List Tm) (k : Int) (i : Nat) (b : Int), 0 ≤ mostL k l i b
 | [], _, _, _ => by rw [mostL]; omega
 | t :: l, k, i, b => by have := Tm.most_ge t (b + under k i); rw [mostL]; omega
end
mutual
theorem Tm.shift_in (e d : Int) (hd : 0 ≤ d) : ∀ (t : Tm) (c0 c : Int), c0 ≤ c → c ≤ c0 + d → (t.shift d c0).shift e c = t.shift (d + e) c0
 | .mk k n l, c0, c, h0, h1 => by
  rw [Tm.shift, Tm.shift, Tm.shift, shiftL_in e d hd l k 0 c0 c h0 h1]
  congr 1
  by_cases hk : k = 1 ∧ c0 ≤ n
  ·rw [if_pos hk, if_pos ⟨hk.1, by omega⟩, if_pos hk]; omega
  ·rw [if_neg hk, if_neg hk, if_neg (by omega)]
theorem shiftL_in (e d : Int) (hd : 0 ≤ d) : ∀ (l : List Tm) (k : Int) (i : Nat) (c0 c : Int), c0 ≤ c → c ≤ c0 + d → shiftL e k (shiftL d k l i c0) i c = shiftL (d + e) k l i c0
 | [], _, _, _, _, _, _ => by rw [shiftL, shiftL, shiftL]
 | t :: l, k, i, c0, c, h0, h1 => by
  rw [shiftL, shiftL, shiftL, Tm.shift_in e d hd t _ _ (by omega) (by omega), shiftL_in e d hd l k _ c0 c h0 h1]
end
mutual
theorem Tm.shift_subst (v : Tm) (e : Int) (he : 0 ≤ e) : ∀ (t : Tm) (c x d : Int), 0 ≤ c → c ≤ d → c ≤ x → (t.shift e c).subst v (x + e) (d + e) = (t.subst v x d).shift e c
 | .mk k n l, c, x, d, h0, h1, h2 => by
  rw [Tm.shift, Tm.subst, Tm.subst]
  by_cases hx : k = 1 ∧ n = x
  ·rw [if_pos ⟨hx.1, by omega⟩, if_pos ⟨hx.1, by omega⟩, Tm.shift_in e d (by omega) v 0 c h0 (by omega)]
  ·have hn : ¬ (k = 1 ∧ (if k = 1 ∧ c ≤ n then n + e else n) = x + e) := by
    rintro ⟨rfl, h⟩
    by_cases hc : c ≤ n
    ·rw [if_pos ⟨rfl, hc⟩] at h
     exact hx ⟨rfl, by omega⟩
    ·rw [if_neg (fun e => hc e.2)] at h
     omega
   rw [if_neg hn, if_neg hx, Tm.shift, shiftL_subst v e he l k 0 c x d h0 h1 h2]
   clear hn
   congr 1
   (repeat' split) <;> omega
theorem shiftL_subst (v : Tm) (e : Int) (he : 0 ≤ e) : ∀ (l : List Tm) (k : Int) (i : Nat) (c x d : Int), 0 ≤ c → c ≤ d → c ≤ x → substL v k (shiftL e k l i c) i (x + e) (d + e) = shiftL e k (substL v k l i x d) i c
 | [], _, _, _, _, _, _, _, _ => by rw [shiftL, substL, substL, shiftL]
 | t :: l, k, i, c, x, d, h0, h1, h2 => by
  have := under_succ k i
  rw [shiftL, substL, substL, shiftL, show x + e + under k i = x + under k i + e by omega, show d + e + under k i = d + under k i + e by omega,
   Tm.shift_subst v e he t _ _ _ (by omega) (by omega) (by omega), shiftL_subst v e he l k _ c x d h0 h1 h2]
end
mutual
theorem Tm.subst_room (u : Tm) (b : Int) (hb : 0 ≤ b) : ∀ (t : Tm) (c d x : Int), c ≤ x → x ≤ c + b → (t.shift (b + 1) c).subst u x d = t.shift b c
 | .mk k n l, c, d, x, h0, h1 => by
  rw [Tm.shift, Tm.subst, Tm.shift, substL_room u b hb l k 0 c d x h0 h1]
  by_cases hk : k = 1 ∧ c ≤ n
  ·rw [if_pos hk, if_neg (by omega), if_pos ⟨hk.1, by omega⟩, if_pos hk]
   congr 1; omega
  ·rw [if_neg hk, if_neg (by omega), if_neg (by omega), if_neg hk]
theorem substL_room (u : Tm) (b : Int) (hb : 0 ≤ b) : ∀ (l : List Tm) (k : Int) (i : Nat) (c d x : Int), c ≤ x → x ≤ c + b → substL u k (shiftL (b + 1) k l i c) i x d = shiftL b k l i c
 | [], _, _, _, _, _, _, _ => by rw [shiftL, substL, shiftL]
 | t :: l, k, i, c, d, x, h0, h1 => by
  rw [shiftL, substL, shiftL, Tm.subst_room u b hb t _ _ _ (by omega) (by omega), substL_room u b hb l k _ c d x h0 h1]
end
-- renamings
end Go.Proofs.YtabbbnddfcbdiaaGreat
namespace Go.Proofs.YtabbbnddfcbdiaaGreat
open Go.RowKit
theorem info_termG : (Tryz.prog.info? 25).map (fun i => (i.zero, i.size, i.bytes)) = some (some (.agg #[.int .i64 0, .int .i64 0, .slice none 0 0]), 3, 40) := by kernel_rfl
theorem grown_none {w w' : World} (hb : Below w.heap.size w w') : w.grownBy w' none := ⟨hb.os, hb.tape, hb.output, hb.size, fun k hk _ => hb.block k hk⟩
theorem cellsL_append : ∀ a b : List (Tm × Value), cellsL (a ++ b) = cellsL a ++ cellsL b
 | [], b => rfl
 | (t, s) :: a, b => by simp only [List.cons_append, cellsL, cellsL_append a b]
def RowG (base : Nat) (l : List Tm) (v : Value) (F : List Nat) (w : World) : Prop :=
 ∃ rs : List (Tm × Value × List Nat), rs.map (·.1) = l ∧ F = rs.flatMap (·.2.2) ∧ w.ownsRow base 25 3 v l.length (cellsL (rs.map fun x => (x.1, x.2.1))) ∧ (∀ x ∈ rs, SlOwn w x.1.kids x.2.1 x.2.2) ∧ F.Nodup ∧
  (∀ g ∈ F, base ≤ g ∧ g < w.heap.size ∧ v.ownBlock ≠ some g)
theorem RowG.nil (base : Nat) (w : World) : RowG base [] (.slice none 0 0) [] w :=
 ⟨[], rfl, rfl, World.ownsRow_nil _ _ _ _, fun x h => (by cases h), List.nodup_nil, fun g h => (by cases h)⟩
theorem RowG.form {base : Nat} {l : List Tm} {v : Value} {F : List Nat} {w : World} (h : RowG base l v F w) : ∃ a cap, v = .slice a l.length cap := by
 obtain ⟨rs, -, -, h, -⟩ := h
 rcases h.2 with ⟨h1, h2⟩ | ⟨g, cap, _, h1, _⟩
 ·exact ⟨none, 0, by rw [h1, h2]⟩
 ·exact ⟨_, _, h1⟩
theorem RowG.lt {base : Nat} {l : List Tm} {v : Value} {F : List Nat} {w : World} (h : RowG base l v F w) : ∀ g, v.ownBlock = some g → base ≤ g ∧ g < w.heap.size := by
 obtain ⟨rs, -, -, h, -⟩ := h
 exact h.lt
theorem RowG.flt {base : Nat} {l : List Tm} {v : Value} {F : List Nat} {w : World} (h : RowG base l v F w) : ∀ g ∈ F, base ≤ g ∧ g < w.heap.size ∧ v.ownBlock ≠ some g := by
 obtain ⟨rs, -, -, -, -, -, h6⟩ := h
 exact h6
theorem RowG.keep {base : Nat} {l : List Tm} {v : Value} {F : List Nat} {w w' : World} (h : RowG base l v F w) (hz : w.heap.size ≤ w'.heap.size) (hk : ∀ g, (v.ownBlock = some g ∨ g ∈ F) → w'.heap[g]? = w.heap[g]?) : RowG base l v F w' := by
 obtain ⟨rs, h1, h2, h3, h4, h5, h6⟩ := h
 refine ⟨rs, h1, h2, ⟨h3.1, ?_⟩, fun x hx => (h4 x hx).keep fun g hg => SameAt.of_block (hk g (Or.inr ?_)), h5, fun g hg => ⟨(h6 g hg).1, by have := (h6 g hg).2.1; omega, (h6 g hg).2.2⟩⟩
 ·rcases h3.2 with h | ⟨g, cap, cur, e, r1, r2, r3⟩
  ·exact Or.inl h
  ·exact Or.inr ⟨g, cap, cur, e, r1, (hk g (Or.inl (by rw [e]; rfl))).trans r2, r3⟩
 ·rw [h2]
  exact List.mem_flatMap.2 ⟨x, hx, hg⟩
theorem RowG.below {base : Nat} {l : List Tm} {v : Value} {F : List Nat} {w w' : World} (h : RowG base l v F w) (hb : Below w.heap.size w w') : RowG base l v F w' :=
 h.keep hb.size fun g hg => by
  rcases hg with hg | hg
  ·exact hb.block g (h.lt g hg).2
  ·obtain ⟨rs, -, -, -, -, -, h6⟩ := h
   exact hb.block g (h6 g hg).2.1
theorem RowG.setCell {base : Nat} {l : List Tm} {v : Value} {F : List Nat} {w : World} (h : RowG base l v F w) {p : Addr} (hp : p.block < base) (u : Value) : RowG base l v F (w.setCell p u) :=
 h.keep (by simp [World.setCell]) fun g hg => by
  refine Below.heap_setCell w p u g fun e => ?_
  rcases hg with hg | hg
  ·have := (h.lt g hg).1; omega
  ·obtain ⟨rs, -, -, -, -, -, h6⟩ := h
   have := (h6 g hg).1; omega
theorem RowG.push {base : Nat} {l : List Tm} {v v' : Value} {F F2 : List Nat} {W w1 : World} {t : Tm} {s : Value} (h : RowG base l v F W) (hs : SlOwn W t.kids s F2) (hnd : F2.Nodup) (hF2 : ∀ g ∈ F2, base ≤ g ∧ g < W.heap.size ∧ g ∉ F ∧ v.ownBlock ≠ some g)
  (hown : ∀ xs, W.ownsRow base 25 3 v l.length xs → w1.ownsRow base 25 3 v' (l.length + 1) (xs ++ [.int .i64 t.kind, .int .i64 t.num, s])) (hgrow : W.grownBy w1 v.ownBlock) (hat : v'.ownBlock = v.ownBlock ∨ v'.ownBlock = some W.heap.size) :
  RowG base (l ++ [t]) v' (F ++ F2) w1 := by
 obtain ⟨rs, h1, h2, h3, h4, h5, h6⟩ := h
 have hsame : ∀ g, g < W.heap.size → v.ownBlock ≠ some g → SameAt W w1 g := fun g hg hn => SameAt.of_block (hgrow.block g hg (fun e => hn e.symm))
 have hFlt : ∀ x ∈ rs, ∀ g ∈ x.2.2, g ∈ F := fun x hx g hg => by rw [h2]; exact List.mem_flatMap.2 ⟨x, hx, hg⟩
 refine ⟨rs ++ [(t, s, F2)], by simp [h1], by simp [h2], ?_, fun x hx => ?_, ?_, fun g hg => ?_⟩
 ·have := hown _ h3
  rw [List.map_append, cellsL_append, List.length_append]
  simpa [cellsL] using this
 ·rcases List.mem_append.1 hx with hx | hx
  ·exact (h4 x hx).keep fun g hg => hsame g (h6 g (hFlt x hx g hg)).2.1 (h6 g (hFlt x hx g hg)).2.2
  ·simp only [List.mem_singleton] at hx
   subst hx
   exact hs.keep fun g hg => hsame g (hF2 g hg).2.1 (hF2 g hg).2.2.2
 ·refine List.nodup_append.2 ⟨h5, hnd, fun a ha b hb e => ?_⟩
  exact (hF2 b hb).2.2.1 (e ▸ ha)
 ·have hz := hgrow.size
  have key : base ≤ g ∧ g < W.heap.size ∧ v.ownBlock ≠ some g := by
   rcases List.mem_append.1 hg with hg | hg
   ·exact h6 g hg
   ·exact ⟨(hF2 g hg).1, (hF2 g hg).2.1, (hF2 g hg).2.2.2⟩
  refine ⟨key.1, by omega, fun e => ?_⟩
  rcases hat with hat | hat
  ·exact key.2.2 (hat ▸ e)
  ·rw [hat] at e
   simp at e
   omega
theorem RowG.done {base : Nat} {l : List Tm} {v : Value} {F : List Nat} {w : World} (h : RowG base l v F w) (hl : l.length ≤ maxLen) : ∃ G, SlOwn w l v G ∧ G.Nodup ∧ ∀ g ∈ G, base ≤ g ∧ g < w.heap.size := by
 obtain ⟨rs, h1, h2, h3, h4, h5, h6⟩ := h
 have hrow := h3
 rcases h3.2 with ⟨e1, e2⟩ | ⟨g, cap, cur, rfl, r1, r2, r3⟩
 ·have : l = [] := List.length_eq_zero_iff.1 e2
  subst this
  subst e1
  exact ⟨[], SlOwn.nil _ _ _, List.nodup_nil, fun g h => by cases h⟩
 ·obtain ⟨b1, b2, b3⟩ := block_of_cells r2
  refine ⟨g :: F, ⟨some ⟨g, 0, none⟩, cap, g, F, rfl, hl, Or.inr ⟨rfl, rfl, b3⟩, fun _ => ?_⟩, List.nodup_cons.2 ⟨fun hg => (h6 g hg).2.2 rfl, h5⟩, fun x hx => ?_⟩
  ·rw [← h1, h2]
   refine RowOwn.of_list (fun j u hu => ?_) h4
   have := hrow.cells (g := g) rfl j u hu
   rw [Nat.zero_add]
   have hadd : (⟨g, 0, none⟩ : Addr).add j = ⟨g, j, none⟩ := by unfold Addr.add; split <;> simp_all
   rwa [hadd] at this
  ·rcases List.mem_cons.1 hx with rfl | hx
   ·exact ⟨r1, b1⟩
   ·exact ⟨(h6 x hx).1, (h6 x hx).2.1⟩
theorem RowG.form' {base q : Nat} {l : List Tm} {v : Value} {F : List Nat} {w : World} (h : RowG base l v F w) (hl : l.length = q) : ∃ a cap, v = .slice a q cap := by
 obtain ⟨a, cap, e⟩ := h.form
 exact ⟨a, cap, by rw [e, hl]⟩
theorem RowG.grow {base q : Nat} {l : List Tm} {v : Value} {F : List Nat} {W : World} (h : RowG base l v F W) (hl : l.length = q) : ∃ xs, W.ownsRow base 25 3 v q xs ∧
  ∀ (v' s : Value) (F2 : List Nat) (w1 : World) (t : Tm), SlOwn W t.kids s F2 → F2.Nodup → (∀ g ∈ F2, base ≤ g ∧ g < W.heap.size ∧ g ∉ F ∧ v.ownBlock ≠ some g) → w1.ownsRow base 25 3 v' (q + 1) (xs ++ [.int .i64 t.kind, .int .i64 t.num, s]) →
   W.grownBy w1 v.ownBlock → (v'.ownBlock = v.ownBlock ∨ v'.ownBlock = some W.heap.size) → RowG base (l ++ [t]) v' (F ++ F2) w1 := by
 subst hl
 have h0 := h
 obtain ⟨rs, h1, h2, h3, h4, h5, h6⟩ := h
 refine ⟨_, h3, fun v' s F2 w1 t a1 a2 a3 a4 a5 a6 => h0.push a1 a2 a3 (fun xs hx => ?_) a5 a6⟩
 have e : xs = cellsL (rs.map fun x => (x.1, x.2.1)) := by
  rcases hx.2 with ⟨e1, e2⟩ | ⟨g, cap, cur, e1, _, r1, _, _, _, r2⟩
  ·have n1 := hx.1
   have n2 := h3.1
   rw [e2] at n1 n2
   exact (List.length_eq_zero_iff.1 (by simpa using n1)).trans (List.length_eq_zero_iff.1 (by simpa using n2)).symm
  ·rcases h3.2 with ⟨f1, f2⟩ | ⟨g', cap', cur', f1, _, q1, _, _, _, q2⟩
   ·rw [e1] at f1
    cases f1
   ·rw [e1] at f1
    injection f1 with f1
    injection f1 with f1
    injection f1 with f1
    subst f1
    rw [r1] at q1
    injection q1 with q1
    injection q1 with q1
    subst q1
    rw [← r2, ← q2]
 rw [e]
 exact a4
end Go.Proofs.YtabbbnddfcbdiaaGreat
