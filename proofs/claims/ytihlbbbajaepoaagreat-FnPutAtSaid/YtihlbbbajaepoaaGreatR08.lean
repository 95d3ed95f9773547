/-
  Grow, Two.
-/
import Derived.Test.YtihlbbbajaepoaaGreatR05
import Derived.Deep.AppendLies
import Derived.Deep.RegionHeld3
import Derived.Laws.AppendOwn
import Derived.Orders
import Derived.OwnWalk
import Derived.ProofKit
import Derived.Test.YtihlbbbajaepoaaGreatProg
import Derived.WalkSpells
namespace Go.Proofs.YtihlbbbajaepoaaGreat
open Go.RowKit
theorem info_termG : (Tryz.prog.info? 34).map (fun i => (i.zero, i.size, i.bytes)) = some (some (.agg #[.int .i64 0, .int .i64 0, .slice none 0 0]), 3, 40) := by kernel_rfl
theorem grown_none {w w' : World} (hb : Below w.heap.size w w') : w.grownBy w' none := ⟨hb.os, hb.tape, hb.output, hb.size, fun k hk _ => hb.block k hk⟩
theorem cellsL_append : ∀ a b : List (Tm × Value), cellsL (a ++ b) = cellsL a ++ cellsL b
 | [], b => rfl
 | (t, s) :: a, b => by simp only [List.cons_append, cellsL, cellsL_append a b]
def RowG (base : Nat) (l : List Tm) (v : Value) (F : List Nat) (w : World) : Prop :=
 ∃ rs : List (Tm × Value × List Nat), rs.map (·.1) = l ∧ F = rs.flatMap (·.2.2) ∧ w.ownsRow base 34 3 v l.length (cellsL (rs.map fun x => (x.1, x.2.1))) ∧ (∀ x ∈ rs, SlOwn w x.1.kids x.2.1 x.2.2) ∧ F.Nodup ∧
  (∀ g ∈ F, base ≤ g ∧ g < w.heap.size ∧ v.ownBlock ≠ some g)
theorem RowG.nil (base : Nat) (w : World) : RowG base [] (.slice none 0 0) [] w :=
 ⟨[], rfl, rfl, World.ownsRow_nil _ _ _ _, fun x h => (by cases h), List.nodup_nil, fun g h => (by cases h)⟩
theorem RowG.form {base : Nat} {l : List Tm} {v : Value} {F : List Nat} {w : World} (h : RowG base l v F w) : ∃ a cap, v = .slice a l.length cap := by
 obtain ⟨rs, -, -, h, -⟩ := h
 rcases h.2 with ⟨h1, h2⟩ | ⟨g, cap, _, h1, _⟩
 ·exact ⟨none, 0, by rw [h1, h2]⟩
 ·exact ⟨_, _, h1⟩
theorem RowG.lt {base : Nat} {l : List Tm} {v : Value} {F : List Nat} {w : World} (h : RowG base l v F w) : ∀ g, v.ownBlock = some g → base ≤ g ∧ g < w.heap.size := by
 obtain ⟨rs, -, -, h, -⟩ := h
 exact h.lt
theorem RowG.flt {base : Nat} {l : List Tm} {v : Value} {F : List Nat} {w : World} (h : RowG base l v F w) : ∀ g ∈ F, base ≤ g ∧ g < w.heap.size ∧ v.ownBlock ≠ some g := by
 obtain ⟨rs, -, -, -, -, -, h6⟩ := h
 exact h6
theorem RowG.keep {base : Nat} {l : List Tm} {v : Value} {F : List Nat} {w w' : World} (h : RowG base l v F w) (hz : w.heap.size ≤ w'.heap.size) (hk : ∀ g, (v.ownBlock = some g ∨ g ∈ F) → w'.heap[g]? = w.heap[g]?) : RowG base l v F w' := by
 obtain ⟨rs, h1, h2, h3, h4, h5, h6⟩ := h
 refine ⟨rs, h1, h2, ⟨h3.1, ?_⟩, fun x hx => (h4 x hx).keep fun g hg => SameAt.of_block (hk g (Or.inr ?_)), h5, fun g hg => ⟨(h6 g hg).1, by have := (h6 g hg).2.1; omega, (h6 g hg).2.2⟩⟩
 ·rcases h3.2 with h | ⟨g, cap, cur, e, r1, r2, r3⟩
  ·exact Or.inl h
  ·exact Or.inr ⟨g, cap, cur, e, r1, (hk g (Or.inl (by rw [e]; rfl))).trans r2, r3⟩
 ·rw [h2]
  exact List.mem_flatMap.2 ⟨x, hx, hg⟩
theorem RowG.below {base : Nat} {l : List Tm} {v : Value} {F : List Nat} {w w' : World} (h : RowG base l v F w) (hb : Below w.heap.size w w') : RowG base l v F w' :=
 h.keep hb.size fun g hg => by
  rcases hg with hg | hg
  ·exact hb.block g (h.lt g hg).2
  ·obtain ⟨rs, -, -, -, -, -, h6⟩ := h
   exact hb.block g (h6 g hg).2.1
theorem RowG.setCell {base : Nat} {l : List Tm} {v : Value} {F : List Nat} {w : World} (h : RowG base l v F w) {p : Addr} (hp : p.block < base) (u : Value) : RowG base l v F (w.setCell p u) :=
 h.keep (by simp [World.setCell]) fun g hg => by
  refine Below.heap_setCell w p u g fun e => ?_
  rcases hg with hg | hg
  ·have := (h.lt g hg).1; omega
  ·obtain ⟨rs, -, -, -, -, -, h6⟩ := h
   have := (h6 g hg).1; omega
theorem RowG.push {base : Nat} {l : List Tm} {v v' : Value} {F F2 : List Nat} {W w1 : World} {t : Tm} {s : Value} (h : RowG base l v F W) (hs : SlOwn W t.kids s F2) (hnd : F2.Nodup) (hF2 : ∀ g ∈ F2, base ≤ g ∧ g < W.heap.size ∧ g ∉ F ∧ v.ownBlock ≠ some g)
  (hown : ∀ xs, W.ownsRow base 34 3 v l.length xs → w1.ownsRow base 34 3 v' (l.length + 1) (xs ++ [.int .i64 t.kind, .int .i64 t.num, s])) (hgrow : W.grownBy w1 v.ownBlock) (hat : v'.ownBlock = v.ownBlock ∨ v'.ownBlock = some W.heap.size) :
  RowG base (l ++ [t]) v' (F ++ F2) w1 := by
 obtain ⟨rs, h1, h2, h3, h4, h5, h6⟩ := h
 have hsame : ∀ g, g < W.heap.size → v.ownBlock ≠ some g → SameAt W w1 g := fun g hg hn => SameAt.of_block (hgrow.block g hg (fun e => hn e.symm))
 have hFlt : ∀ x ∈ rs, ∀ g ∈ x.2.2, g ∈ F := fun x hx g hg => by rw [h2]; exact List.mem_flatMap.2 ⟨x, hx, hg⟩
 refine ⟨rs ++ [(t, s, F2)], by simp [h1], by simp [h2], ?_, fun x hx => ?_, ?_, fun g hg => ?_⟩
 ·have := hown _ h3
  rw [List.map_append, cellsL_append, List.length_append]
  simpa [cellsL] using this
 ·rcases List.mem_append.1 hx with hx | hx
  ·exact (h4 x hx).keep fun g hg => hsame g (h6 g (hFlt x hx g hg)).2.1 (h6 g (hFlt x hx g hg)).2.2
  ·simp only [List.mem_singleton] at hx
   subst hx
   exact hs.keep fun g hg => hsame g (hF2 g hg).2.1 (hF2 g hg).2.2.2
 ·refine List.nodup_append.2 ⟨h5, hnd, fun a ha b hb e => ?_⟩
  exact (hF2 b hb).2.2.1 (e ▸ ha)
 ·have hz := hgrow.size
  have key : base ≤ g ∧ g < W.heap.size ∧ v.ownBlock ≠ some g := by
   rcases List.mem_append.1 hg with hg | hg
   ·exact h6 g hg
   ·exact ⟨(hF2 g hg).1, (hF2 g hg).2.1, (hF2 g hg).2.2.2⟩
  refine ⟨key.1, by omega, fun e => ?_⟩
  rcases hat with hat | hat
  ·exact key.2.2 (hat ▸ e)
  ·rw [hat] at e
   simp at e
   omega
theorem RowG.done {base : Nat} {l : List Tm} {v : Value} {F : List Nat} {w : World} (h : RowG base l v F w) (hl : l.length ≤ maxLen) : ∃ G, SlOwn w l v G ∧ G.Nodup ∧ ∀ g ∈ G, base ≤ g ∧ g < w.heap.size := by
 obtain ⟨rs, h1, h2, h3, h4, h5, h6⟩ := h
 have hrow := h3
 rcases h3.2 with ⟨e1, e2⟩ | ⟨g, cap, cur, rfl, r1, r2, r3⟩
 ·have : l = [] := List.length_eq_zero_iff.1 e2
  subst this
  subst e1
  exact ⟨[], SlOwn.nil _ _ _, List.nodup_nil, fun g h => by cases h⟩
 ·obtain ⟨b1, b2, b3⟩ := block_of_cells r2
  refine ⟨g :: F, ⟨some ⟨g, 0, none⟩, cap, g, F, rfl, hl, Or.inr ⟨rfl, rfl, b3⟩, fun _ => ?_⟩, List.nodup_cons.2 ⟨fun hg => (h6 g hg).2.2 rfl, h5⟩, fun x hx => ?_⟩
  ·rw [← h1, h2]
   refine RowOwn.of_list (fun j u hu => ?_) h4
   have := hrow.cells (g := g) rfl j u hu
   rw [Nat.zero_add]
   have hadd : (⟨g, 0, none⟩ : Addr).add j = ⟨g, j, none⟩ := by unfold Addr.add; split <;> simp_all
   rwa [hadd] at this
  ·rcases List.mem_cons.1 hx with rfl | hx
   ·exact ⟨r1, b1⟩
   ·exact ⟨(h6 x hx).1, (h6 x hx).2.1⟩
theorem RowG.form' {base q : Nat} {l : List Tm} {v : Value} {F : List Nat} {w : World} (h : RowG base l v F w) (hl : l.length = q) : ∃ a cap, v = .slice a q cap := by
 obtain ⟨a, cap, e⟩ := h.form
 exact ⟨a, cap, by rw [e, hl]⟩
theorem RowG.grow {base q : Nat} {l : List Tm} {v : Value} {F : List Nat} {W : World} (h : RowG base l v F W) (hl : l.length = q) : ∃ xs, W.ownsRow base 34 3 v q xs ∧
  ∀ (v' s : Value) (F2 : List Nat) (w1 : World) (t : Tm), SlOwn W t.kids s F2 → F2.Nodup → (∀ g ∈ F2, base ≤ g ∧ g < W.heap.size ∧ g ∉ F ∧ v.ownBlock ≠ some g) → w1.ownsRow base 34 3 v' (q + 1) (xs ++ [.int .i64 t.kind, .int .i64 t.num, s]) →
   W.grownBy w1 v.ownBlock → (v'.ownBlock = v.ownBlock ∨ v'.ownBlock = some W.heap.size) → RowG base (l ++ [t]) v' (F ++ F2) w1 := by
 subst hl
 have h0 := h
 obtain ⟨rs, h1, h2, h3, h4, h5, h6⟩ := h
 refine ⟨_, h3, fun v' s F2 w1 t a1 a2 a3 a4 a5 a6 => h0.push a1 a2 a3 (fun xs hx => ?_) a5 a6⟩
 have e : xs = cellsL (rs.map fun x => (x.1, x.2.1)) := by
  rcases hx.2 with ⟨e1, e2⟩ | ⟨g, cap, cur, e1, _, r1, _, _, _, r2⟩
  ·have n1 := hx.1
   have n2 := h3.1
   rw [e2] at n1 n2
   exact (List.length_eq_zero_iff.1 (by simpa using n1)).trans (List.length_eq_zero_iff.1 (by simpa using n2)).symm
  ·rcases h3.2 with ⟨f1, f2⟩ | ⟨g', cap', cur', f1, _, q1, _, _, _, q2⟩
   ·rw [e1] at f1
    cases f1
   ·rw [e1] at f1
    injection f1 with f1
    injection f1 with f1
    injection f1 with f1
    subst f1
    rw [r1] at q1
    injection q1 with q1
    injection q1 with q1
    subst q1
    rw [← r2, ← q2]
 rw [e]
 exact a4
end Go.Proofs.YtihlbbbajaepoaaGreat
namespace Go.Proofs.YtihlbbbajaepoaaGreat
open Go
section
variable {P : Program} {ops : Array Oper} {Q : Exit → Act → World → Prop} {md : Region.Mode} {S1 S2 : World → Prop} {m : Nat}
def ph (S1 S2 : World → Prop) (m : Nat) (L : Array Bool) (w : World) : Prop := if L.getD m true = false then S1 w else S2 w
theorem ph_one {L : Array Bool} {w : World} (h : L.getD m true = false) (hS : S1 w) : ph S1 S2 m L w := by
 unfold ph
 rw [if_pos h]
 exact hS
theorem ph_end {L : Array Bool} {w : World} (h : L.getD m true = true) (hS : S2 w) : ph S1 S2 m L w := by
 unfold ph
 rw [if_neg (by rw [h]; decide)]
 exact hS
def AnyTwo (P : Program) (md : Region.Mode) (ops : Array Oper) (Q : Exit → Act → World → Prop) (S1 S2 : World → Prop) (m : Nat) : Nat → Array Bool → Act → World → Prop
 | 0, L, a, w => Region.ready md ops L = [] ∧ Q .normal a w
 | fuel + 1, L, a, w => (Region.ready md ops L = [] → Q .normal a w) ∧ ∀ i ∈ Region.ready md ops L, wpOp P ops Q i (fun a' w' => ph S1 S2 m (L.setIfInBounds i true) w' ∧ AnyTwo P md ops Q S1 S2 m fuel (L.setIfInBounds i true) a' w') a w
theorem AnyTwo.any : ∀ (fuel : Nat) (L : Array Bool) (a : Act) (w : World), AnyTwo P md ops Q S1 S2 m fuel L a w → wpAny P md ops Q fuel L a w
 | 0, _, _, _, h => h
 | fuel + 1, _, _, _, h => ⟨h.1, fun i hi => wpOp_mono (fun a' w' h' => AnyTwo.any fuel _ a' w' h'.2) (h.2 i hi)⟩
theorem ph_set {L : Array Bool} {i j : Nat} {w : World} (hi : i ≠ m) (h : ph S1 S2 m ((L.setIfInBounds i true).setIfInBounds j true) w) : ph S1 S2 m (L.setIfInBounds j true) w := by
 unfold ph at *
 have e : ((L.setIfInBounds i true).setIfInBounds j true).getD m true = (L.setIfInBounds j true).getD m true := by
  by_cases hj : j = m
  ·subst hj
   rw [Array.setIfInBounds_comm _ _ hi, getD_set_ne true hi]
  ·rw [getD_set_ne true hj, getD_set_ne true hi, getD_set_ne true hj]
 rwa [e] at h
theorem AnyTwo.first {i : Nat} {oi om : Oper} {v : Value} (hi : ops[i]? = some oi) (hm : ops[m]? = some om) (hw : ∃ e ∈ om.after, Region.binds md e = true ∧ e.on = i) (him : i ≠ m) (hsel : ∀ (j : Nat) (o : Oper) cs b, ops[j]? = some o → o.op ≠ .select cs b)
  (hQ : ∀ c a w, Q (.panic c) (a.put oi.dst v) w → Q (.panic c) a w) :
  ∀ (fuel : Nat) (L : Array Bool) (a : Act) (w : World),
   (∀ j oj, ops[j]? = some oj → j ≠ i → L.getD j true = false → (∀ e ∈ oj.after, Region.binds md e = true → e.on ≠ i) → oi.apart ops oj = true) →
   i ∈ Region.ready md ops L → L.getD m true = false → YieldsIf P ops S1 oi v a → S1 w →
   AnyTwo P md ops Q S1 S2 m fuel (L.setIfInBounds i true) (a.put oi.dst v) w → AnyTwo P md ops Q S1 S2 m (fuel + 1) L a w := by
 intro fuel
 induction fuel with
 | zero =>
  intro L a w _ hr hun hy hS H
  refine ⟨fun h => (by rw [h] at hr; cases hr), fun j hj => ?_⟩
  by_cases hji : j = i
  ·subst hji
   refine hy.wpOp hi hS ⟨?_, H⟩
   unfold ph
   rw [getD_set_ne true him, if_pos hun]
   exact hS
  ·have := ready_mono hj hji
   rw [H.1] at this
   cases this
 | succ fuel ih =>
  intro L a w hfree hr hun hy hS H
  refine ⟨fun h => (by rw [h] at hr; cases hr), fun j hj => ?_⟩
  by_cases hji : j = i
  ·subst hji
   refine hy.wpOp hi hS ⟨?_, H⟩
   unfold ph
   rw [getD_set_ne true him, if_pos hun]
   exact hS
  ·have h1 := H.2 j (ready_mono hj hji)
   obtain ⟨hjun, oj, hoj, hall⟩ := mem_ready.1 hj
   have hnot : ∀ e ∈ oj.after, Region.binds md e = true → e.on ≠ i := fun e he hb heq => by
    have h1 := hall e he hb
    have h0 := (mem_ready.1 hr).1
    rw [heq] at h1
    rcases Nat.lt_or_ge i L.size with h' | h'
    ·simp [h'] at h0 h1; rw [h0] at h1; cases h1
    ·simp [Array.getElem?_eq_none h'] at h1
   have hjm : j ≠ m := by
    rintro rfl
    obtain ⟨e, he, hb, heq⟩ := hw
    rw [hm] at hoj
    cases hoj
    exact hnot e he hb heq
   have h2 := wpOp_putIf hoj (hfree j oj hoj hji hjun hnot) (fun cs b => hsel i oi cs b hi) (fun cs b => hsel j oj cs b hoj) hQ hy h1
   have hfree' : ∀ k ok, ops[k]? = some ok → k ≠ i → (L.setIfInBounds j true).getD k true = false →
     (∀ e ∈ ok.after, Region.binds md e = true → e.on ≠ i) → oi.apart ops ok = true := fun k ok hk hki hku hno => by
    refine hfree k ok hk hki ?_ hno
    by_cases hjk : j = k
    ·subst hjk; exact hjun
    ·rw [getD_set_ne true hjk] at hku; exact hku
   have hun' : (L.setIfInBounds j true).getD m true = false := by rw [getD_set_ne true hjm]; exact hun
   refine wpOp_mono (fun a' w' h3 => ?_) h2
   have hp := ph_set him h3.2.1
   have hs1 : S1 w' := by
    unfold ph at hp
    rw [if_pos hun'] at hp
    exact hp
   refine ⟨hp, ih (L.setIfInBounds j true) a' w' hfree' (ready_mono hr (Ne.symm hji)) hun' h3.1 hs1 ?_⟩
   rw [Array.setIfInBounds_comm _ _ hji]
   exact h3.2.2
theorem ph_two (hT : ∀ w, S1 w → S2 w) {L : Array Bool} {w : World} (h : ph S1 S2 m L w) : S2 w := by
 unfold ph at h
 split at h
 ·exact hT w h
 ·exact h
theorem AnyTwo.firstAny (hT : ∀ w, S1 w → S2 w) {i : Nat} {oi : Oper} {v : Value} (hi : ops[i]? = some oi) (him : i ≠ m) (hsel : ∀ (j : Nat) (o : Oper) cs b, ops[j]? = some o → o.op ≠ .select cs b)
  (hQ : ∀ c a w, Q (.panic c) (a.put oi.dst v) w → Q (.panic c) a w) :
  ∀ (fuel : Nat) (L : Array Bool) (a : Act) (w : World),
   (∀ j oj, ops[j]? = some oj → j ≠ i → L.getD j true = false → (∀ e ∈ oj.after, Region.binds md e = true → e.on ≠ i) → oi.apart ops oj = true) →
   i ∈ Region.ready md ops L → YieldsIf P ops S2 oi v a → ph S1 S2 m L w →
   AnyTwo P md ops Q S1 S2 m fuel (L.setIfInBounds i true) (a.put oi.dst v) w → AnyTwo P md ops Q S1 S2 m (fuel + 1) L a w := by
 intro fuel
 induction fuel with
 | zero =>
  intro L a w _ hr hy hS H
  refine ⟨fun h => (by rw [h] at hr; cases hr), fun j hj => ?_⟩
  by_cases hji : j = i
  ·subst hji
   refine hy.wpOp hi (ph_two hT hS) ⟨?_, H⟩
   unfold ph at *
   rwa [getD_set_ne true him]
  ·have := ready_mono hj hji
   rw [H.1] at this
   cases this
 | succ fuel ih =>
  intro L a w hfree hr hy hS H
  refine ⟨fun h => (by rw [h] at hr; cases hr), fun j hj => ?_⟩
  by_cases hji : j = i
  ·subst hji
   refine hy.wpOp hi (ph_two hT hS) ⟨?_, H⟩
   unfold ph at *
   rwa [getD_set_ne true him]
  ·have h1 := H.2 j (ready_mono hj hji)
   obtain ⟨hjun, oj, hoj, hall⟩ := mem_ready.1 hj
   have hnot : ∀ e ∈ oj.after, Region.binds md e = true → e.on ≠ i := fun e he hb heq => by
    have h1 := hall e he hb
    have h0 := (mem_ready.1 hr).1
    rw [heq] at h1
    rcases Nat.lt_or_ge i L.size with h' | h'
    ·simp [h'] at h0 h1; rw [h0] at h1; cases h1
    ·simp [Array.getElem?_eq_none h'] at h1
   have h2 := wpOp_putIf hoj (hfree j oj hoj hji hjun hnot) (fun cs b => hsel i oi cs b hi) (fun cs b => hsel j oj cs b hoj) hQ hy h1
   have hfree' : ∀ k ok, ops[k]? = some ok → k ≠ i → (L.setIfInBounds j true).getD k true = false →
     (∀ e ∈ ok.after, Region.binds md e = true → e.on ≠ i) → oi.apart ops ok = true := fun k ok hk hki hku hno => by
    refine hfree k ok hk hki ?_ hno
    by_cases hjk : j = k
    ·subst hjk; exact hjun
    ·rw [getD_set_ne true hjk] at hku; exact hku
   refine wpOp_mono (fun a' w' h3 => ?_) h2
   have hp := ph_set him h3.2.1
   refine ⟨hp, ih (L.setIfInBounds j true) a' w' hfree' (ready_mono hr (Ne.symm hji)) h3.1 hp ?_⟩
   rw [Array.setIfInBounds_comm _ _ hji]
   exact h3.2.2
theorem AnyTwo.take {i : Nat} {oi : Oper} {v : Value} {fuel : Nat} {L : Array Bool} {a : Act} {w : World} (hi : ops[i]? = some oi) (hs : Region.noSelect ops = true) (hf : Region.free md ops L i = true) (hr : (Region.ready md ops L).contains i = true)
  (hw : (match ops[m]? with | some om => om.after.any fun e => Region.binds md e && e.on == i | none => false) = true) (him : (i == m) = false) (hun : L.getD m true = false)
  (hQ : ∀ c a w, Q (.panic c) (a.put oi.dst v) w → Q (.panic c) a w) (hy : YieldsIf P ops S1 oi v a) (hS : S1 w)
  (h : AnyTwo P md ops Q S1 S2 m fuel (L.setIfInBounds i true) (a.put oi.dst v) w) : AnyTwo P md ops Q S1 S2 m (fuel + 1) L a w := by
 split at hw
 ·rename_i om hom
  simp only [Array.any_eq_true', Bool.and_eq_true, beq_iff_eq] at hw
  exact AnyTwo.first hi hom (by simpa using hw) (by simpa using him) (Region.noSelect_spec hs) hQ fuel L a w (Region.free_spec hi hf) (by simpa using hr) hun hy hS h
 ·cases hw
theorem AnyTwo.takeAny (hT : ∀ w, S1 w → S2 w) {i : Nat} {oi : Oper} {v : Value} {fuel : Nat} {L : Array Bool} {a : Act} {w : World} (hi : ops[i]? = some oi) (hs : Region.noSelect ops = true) (hf : Region.free md ops L i = true) (hr : (Region.ready md ops L).contains i = true)
  (him : (i == m) = false) (hQ : ∀ c a w, Q (.panic c) (a.put oi.dst v) w → Q (.panic c) a w) (hy : YieldsIf P ops S2 oi v a) (hS : ph S1 S2 m L w)
  (h : AnyTwo P md ops Q S1 S2 m fuel (L.setIfInBounds i true) (a.put oi.dst v) w) : AnyTwo P md ops Q S1 S2 m (fuel + 1) L a w :=
 AnyTwo.firstAny hT hi (by simpa using him) (Region.noSelect_spec hs) hQ fuel L a w (Region.free_spec hi hf) (by simpa using hr) hy hS h
theorem AnyTwo.step {i : Nat} {o : Oper} {fuel : Nat} {L : Array Bool} {a : Act} {w : World} (hr : Region.ready md ops L = [i]) (ho : ops[i]? = some o)
  (h : ∀ K' : Act → World → Prop, Shut (∀ a w, ph S1 S2 m (L.setIfInBounds i true) w → AnyTwo P md ops Q S1 S2 m fuel (L.setIfInBounds i true) a w → K' a w) → if Region.wanted o (yielded ops a.tmps) = true then Oper.wp P o a w K' Q else K' (a.put o.dst undef) w) :
  AnyTwo P md ops Q S1 S2 m (fuel + 1) L a w := by
 refine ⟨fun h0 => (by rw [hr] at h0; cases h0), fun j hj => ?_⟩
 rw [hr] at hj
 obtain rfl : j = i := by simpa using hj
 exact wpOp_step ho fun K' hK => h K' fun a w h1 h2 => hK a w ⟨h1, h2⟩
theorem AnyTwo.fork {i j : Nat} {o o' : Oper} {fuel : Nat} {L : Array Bool} {a : Act} {w : World} (hr : Region.ready md ops L = [i, j]) (ho : ops[i]? = some o) (ho' : ops[j]? = some o')
  (h : ∀ K' : Act → World → Prop, Shut (∀ a w, ph S1 S2 m (L.setIfInBounds i true) w → AnyTwo P md ops Q S1 S2 m fuel (L.setIfInBounds i true) a w → K' a w) → if Region.wanted o (yielded ops a.tmps) = true then Oper.wp P o a w K' Q else K' (a.put o.dst undef) w)
  (h' : ∀ K' : Act → World → Prop, Shut (∀ a w, ph S1 S2 m (L.setIfInBounds j true) w → AnyTwo P md ops Q S1 S2 m fuel (L.setIfInBounds j true) a w → K' a w) → if Region.wanted o' (yielded ops a.tmps) = true then Oper.wp P o' a w K' Q else K' (a.put o'.dst undef) w) :
  AnyTwo P md ops Q S1 S2 m (fuel + 1) L a w := by
 refine ⟨fun h0 => (by rw [hr] at h0; cases h0), fun l hl => ?_⟩
 rw [hr] at hl
 rcases List.mem_cons.1 hl with rfl | hl
 ·exact wpOp_step ho fun K' hK => h K' fun a w h1 h2 => hK a w ⟨h1, h2⟩
 ·obtain rfl : l = j := by simpa using hl
  exact wpOp_step ho' fun K' hK => h' K' fun a w h1 h2 => hK a w ⟨h1, h2⟩
theorem AnyTwo.done {L : Array Bool} {a : Act} {w : World} (hr : Region.ready md ops L = []) (h : Q .normal a w) : ∀ fuel, AnyTwo P md ops Q S1 S2 m fuel L a w
 | 0 => ⟨hr, h⟩
 | _ + 1 => ⟨fun _ => h, by rw [hr]; simp⟩
theorem AnyTwo.begin {id : Nat} {a : Act} {w : World} (S1 S2 : World → Prop) (m : Nat) (hm : P.follows .mixedOrders = true)
  (h : AnyTwo P .any ops Q S1 S2 m ops.size (Array.replicate ops.size false) a w.drew) : (Code.region id ops true).wp P Q a w :=
 wp_region_any hm (AnyTwo.any _ _ _ _ h)
end
end Go.Proofs.YtihlbbbajaepoaaGreat
