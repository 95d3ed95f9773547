/-
  PlY.
-/
import Derived.Test.YtpddjebdncaceaaGreatR24
import Derived.Test.YtpddjebdncaceaaGreatR32
import Derived.Test.YtpddjebdncaceaaGreatR35
namespace Go.Proofs.YtpddjebdncaceaaGreat
open Go.RowKit
theorem putObj_grown (A : World) (r : Nat) (o : Obj) : A.grownBy (A.putObj r o) (some r) :=
 ⟨rfl, rfl, rfl, by simp [World.putObj], fun i _ hn => World.putObj_heap_other (fun e => hn (by rw [e]))⟩
theorem row_other {A B : World} {row : Option Nat} {base : Nat} {e : TypeId} {size n : Nat} {v : Value} {xs : List Value} (h : A.ownsRow base e size v n xs) (hg : A.grownBy B row) (hr : ∀ r, row = some r → ∃ o : Obj, A.heap[r]? = some o ∧ o.isCells = false) : B.ownsRow base e size v n xs := by
 refine h.kept hg ?_
 rcases h.2 with ⟨rfl, -⟩ | ⟨g, cap, cur, rfl, hb, hgg, -⟩
 ·exact Or.inl rfl
 ·refine Or.inr fun e => ?_
  obtain ⟨o, ho, hc⟩ := hr g e.symm
  rw [hgg] at ho
  cases ho
  cases hc
theorem CurAt.other {u A B : World} {g : Nat} {t : Tm} {p : List (Tm × Nat)} {M : Nat → Prop} {row : Option Nat} (h : CurAt u g t p M A) (hg : A.grownBy B row) (hr : ∀ r, row = some r → ∃ o : Obj, A.heap[r]? = some o ∧ o.isCells = false) : CurAt u g t p M B := by
 obtain ⟨hv, s, qs, h1, h2, h3, v, h4, h5, h6, h7⟩ := h
 refine ⟨⟨fun p x hc => cell_kept (hv.rd p x hc) hg hr, hv.off⟩, s, qs, h1, h2, h3, v, ?_, h5, row_other h6 hg hr, h7⟩
 rw [hg.block g (block_of_cells h4).1 (fun e => by
  obtain ⟨o, ho, hc⟩ := hr g e.symm
  rw [h4] at ho
  cases ho
  cases hc)]
 exact h4
theorem Step.more {M M' : Nat → Prop} {A B : World} {b : Nat} (h : Step M A B M') (hb : b < A.heap.size) : Step (fun i => M i ∨ i = b) A B (fun i => M' i ∨ i = b) :=
 ⟨h.os, h.tape, h.output, h.size, fun i hi hn => h.block i hi (fun m => hn (Or.inl m)), fun i hi hm => hm.imp (h.grow i hi) id, fun i hm => hm.elim (h.lt i) (fun e => by rw [e]; exact Nat.lt_of_lt_of_le hb h.size)⟩
theorem CurAt.keep {u A B : World} {g : Nat} {t : Tm} {p : List (Tm × Nat)} {M : Nat → Prop} (h : CurAt u g t p M A) (hv : View u M B) (hk : ∀ i, M i → B.heap[i]? = A.heap[i]?) : CurAt u g t p M B := by
 obtain ⟨-, s, qs, h1, h2, h3, v, h4, h5, h6, rfl⟩ := h
 refine ⟨hv, s, qs, h1, h2, h3, v, (hk g (Or.inl rfl)).trans h4, h5, ⟨h6.1, ?_⟩, rfl⟩
 rcases h6.2 with hn | ⟨b, cap, cur, rfl, hb, hgg, rest⟩
 ·exact Or.inl hn
 ·exact Or.inr ⟨b, cap, cur, rfl, hb, (hk b (Or.inr rfl)).trans hgg, rest⟩
def RowQ (M : Nat → Prop) (base : Nat) (L : List ((Int → Int) × Nat)) (v : Value) (w : World) : Prop :=
 ∃ (vs : List Value) (bs : List Nat), vs.length = L.length ∧ bs.length = L.length ∧ w.ownsRow base 28 1 v L.length vs ∧ (∀ g, v.ownBlock = some g → ¬ M g ∧ g ∉ bs) ∧ bs.Nodup ∧ (∀ b ∈ bs, base ≤ b ∧ ¬ M b) ∧ ∀ j (h : j < L.length), ∃ u b, vs[j]? = some u ∧ bs[j]? = some b ∧ IntsOwn w b L[j].1 L[j].2 u
theorem RowQ.nil (M : Nat → Prop) (base : Nat) (w : World) : RowQ M base [] (.slice none 0 0) w := ⟨[], [], rfl, rfl, World.ownsRow_nil _ _ _ _, (fun g h => (by cases h)), List.nodup_nil, (fun b h => (by cases h)), fun j h => (by simp at h)⟩
theorem RowQ.form {M : Nat → Prop} {base : Nat} {L : List ((Int → Int) × Nat)} {v : Value} {w : World} (h : RowQ M base L v w) : ∃ a cap, v = .slice a L.length cap := by
 obtain ⟨vs, bs, -, -, h, -⟩ := h
 rcases h.2 with ⟨h1, h2⟩ | ⟨g, cap, _, h1, _⟩
 ·exact ⟨none, 0, by rw [h1, h2]⟩
 ·exact ⟨_, _, h1⟩
theorem IntsOwn.isX {w : World} {X : Nat → Prop} {b len : Nat} {N : Int → Int} {u : Value} (h : IntsOwn w b N len u) (hX : ¬ X b) : IsX w X N len u := by
 obtain ⟨rfl, cs, k1, k2, k3⟩ := h
 have hz := (block_of_cells k1).1
 exact ⟨_, _, b, 0, rfl, Nat.le_refl _, fun _ => ⟨rfl, hX, hz⟩, fun i hi => by rw [Nat.zero_add]; exact ((block_of_cells k1).2.1 i).trans (k3 i hi)⟩
theorem RowQ.rowP {M : Nat → Prop} {base : Nat} {L : List ((Int → Int) × Nat)} {v : Value} {w : World} (h : RowQ M base L v w) : RowP base L v w := by
 obtain ⟨vs, bs, h1, hb, h2, h3, hn, h4, h5⟩ := h
 exact ⟨vs, h1, h2, fun j hj => by
  obtain ⟨u, b, k1, k2, k3⟩ := h5 j hj
  exact ⟨u, k1, k3.isX fun e => e.elim (fun e => (h3 b e).2 (List.mem_of_getElem? k2)) (fun e => Nat.lt_irrefl _ (Nat.lt_of_lt_of_le e (h4 b (List.mem_of_getElem? k2)).1)), ⟨_, _, _, _, k3.form⟩⟩⟩
theorem RowP.base {base b' : Nat} {L : List ((Int → Int) × Nat)} {v : Value} {w : World} (h : RowP base L v w) (hb : b' ≤ base) : RowP b' L v w := by
 obtain ⟨vs, h1, h2, h3⟩ := h
 exact ⟨vs, h1, ⟨h2.1, h2.2.imp id (fun ⟨g, cap, cur, e, hb2, rest⟩ => ⟨g, cap, cur, e, Nat.le_trans hb hb2, rest⟩)⟩, fun j hj => by
  obtain ⟨u, k1, k2, k3⟩ := h3 j hj
  exact ⟨u, k1, k2.to fun b hx hbw => ⟨fun h => hx (h.imp id fun h => Nat.lt_of_lt_of_le h hb), hbw, fun _ => rfl⟩, k3⟩⟩
theorem RowQ.weak {M : Nat → Prop} {base b' : Nat} {L : List ((Int → Int) × Nat)} {v : Value} {w : World} (h : RowQ M base L v w) (hb : b' ≤ base) : RowQ (fun _ => False) b' L v w := by
 obtain ⟨vs, bs, h1, h0, h2, h3, hn, h4, h5⟩ := h
 exact ⟨vs, bs, h1, h0, ⟨h2.1, h2.2.imp id (fun ⟨g, cap, cur, e, hb2, rest⟩ => ⟨g, cap, cur, e, Nat.le_trans hb hb2, rest⟩)⟩, fun g hg => ⟨fun h => h, (h3 g hg).2⟩, hn, fun b hm => ⟨Nat.le_trans hb (h4 b hm).1, fun h => h⟩, h5⟩
theorem RowQ.step {M M' : Nat → Prop} {base : Nat} {L : List ((Int → Int) × Nat)} {v : Value} {A B : World} (h : RowQ M base L v A) (hs : Step M A B M') : RowQ M' base L v B := by
 obtain ⟨vs, bs, h1, h0, h2, h3, hn, h4, h5⟩ := h
 have hlt := h2.lt
 have hbl : ∀ b ∈ bs, b < A.heap.size := fun b hm => by
  obtain ⟨j, hj, e⟩ := List.mem_iff_getElem.1 hm
  obtain ⟨u, b', k1, k2, k3⟩ := h5 j (by omega)
  rw [List.getElem?_eq_getElem hj, e] at k2
  cases k2
  exact k3.lt
 refine ⟨vs, bs, h1, h0, ⟨h2.1, ?_⟩, fun g hg => ⟨fun hm => (h3 g hg).1 (hs.grow g (hlt g hg).2 hm), (h3 g hg).2⟩, hn, fun b hm => ⟨(h4 b hm).1, fun h => (h4 b hm).2 (hs.grow b (hbl b hm) h)⟩, fun j hj => ?_⟩
 ·rcases h2.2 with hn | ⟨g, cap, cur, rfl, hb, hgg, rest⟩
  ·exact Or.inl hn
  ·exact Or.inr ⟨g, cap, cur, rfl, hb, (hs.block g (hlt g rfl).2 (h3 g rfl).1).trans hgg, rest⟩
 ·obtain ⟨u, b, k1, k2, k3⟩ := h5 j hj
  exact ⟨u, b, k1, k2, k3.of_block (hs.block b k3.lt (h4 b (List.mem_of_getElem? k2)).2)⟩
theorem RowQ.other {M : Nat → Prop} {base : Nat} {L : List ((Int → Int) × Nat)} {v : Value} {A B : World} {row : Option Nat} (h : RowQ M base L v A) (hg : A.grownBy B row) (hr : ∀ r, row = some r → ∃ o : Obj, A.heap[r]? = some o ∧ o.isCells = false) : RowQ M base L v B := by
 obtain ⟨vs, bs, h1, h0, h2, h3, hn, h4, h5⟩ := h
 refine ⟨vs, bs, h1, h0, row_other h2 hg hr, h3, hn, h4, fun j hj => ?_⟩
 obtain ⟨u, b, k1, k2, k3⟩ := h5 j hj
 refine ⟨u, b, k1, k2, k3.of_block (hg.block b k3.lt fun e => ?_)⟩
 obtain ⟨o, ho, hc⟩ := hr b e.symm
 obtain ⟨cs, m1, -⟩ := k3.block
 rw [m1] at ho
 cases ho
 cases hc
theorem RowQ.below {M : Nat → Prop} {base : Nat} {L : List ((Int → Int) × Nat)} {v : Value} {A B : World} (h : RowQ M base L v A) (hb : Below A.heap.size A B) : RowQ M base L v B := by
 obtain ⟨vs, bs, h1, h0, h2, h3, hn, h4, h5⟩ := h
 exact ⟨vs, bs, h1, h0, h2.kept (grown_none hb) (by cases v.ownBlock <;> simp), h3, hn, h4, fun j hj => by
  obtain ⟨u, b, k1, k2, k3⟩ := h5 j hj
  exact ⟨u, b, k1, k2, k3.below hb⟩⟩
theorem RowQ.set {M : Nat → Prop} {base : Nat} {L : List ((Int → Int) × Nat)} {v : Value} {A : World} (h : RowQ M base L v A) {q : Addr} (hq : q.block < base) (y : Value) : RowQ M base L v (A.setCell q y) := by
 obtain ⟨vs, bs, h1, h0, h2, h3, hn, h4, h5⟩ := h
 have hk : ∀ b, base ≤ b → (A.setCell q y).heap[b]? = A.heap[b]? := fun b hb => Below.heap_setCell A q y b (by omega)
 refine ⟨vs, bs, h1, h0, ⟨h2.1, ?_⟩, h3, hn, h4, fun j hj => ?_⟩
 ·rcases h2.2 with hn | ⟨g, cap, cur, rfl, hb, hgg, rest⟩
  ·exact Or.inl hn
  ·exact Or.inr ⟨g, cap, cur, rfl, hb, (hk g hb).trans hgg, rest⟩
 ·obtain ⟨u, b, k1, k2, k3⟩ := h5 j hj
  exact ⟨u, b, k1, k2, k3.of_block (hk b (h4 b (List.mem_of_getElem? k2)).1)⟩
theorem rowQ_append {M : Nat → Prop} {base : Nat} {L : List ((Int → Int) × Nat)} {v : Value} {W : World} {N : Int → Int} {len : Nat} {ao : Option Addr} {c : Nat} {W0 : World} (hq : RowQ M base L v W0) (hbq : Below W0.heap.size W0 W) (hM : ∀ i, M i → i < W.heap.size) {gp : Nat} (hs : IntsOwn W gp N len (.slice ao len c)) (hgp : base ≤ gp ∧ ¬ M gp ∧ v.ownBlock ≠ some gp) (hgq : W0.heap.size ≤ gp) (hbase : base ≤ W.heap.size) (hl : L.length + 1 ≤ 1000) :
  ∃ v' W', (Builtin.append_ #[53, 53] 53 #[v, .slice (some ⟨W.heap.size, 0, none⟩) 1 1]).run Tryz.prog (W.alloc (.cells #[.slice ao len c] 28)) = .ok v' W' ∧ RowQ M base (L ++ [(N, len)]) v' W' ∧ (W.alloc (.cells #[.slice ao len c] 28)).grownBy W' v.ownBlock ∧ (v'.ownBlock = v.ownBlock ∨ v'.ownBlock = some (W.heap.size + 1)) := by
 obtain ⟨i0, hi0, hz0, hz1, hz2⟩ := info_parts info_intsE
 have ht := Tryz.underlying53
 obtain ⟨vs, bs, h1, h0, h20, hvM, hnd, h4, h30⟩ := hq
 have h2 := h20.kept (grown_none hbq) (by cases v.ownBlock <;> simp)
 have h3 : ∀ j (h : j < L.length), ∃ u b, vs[j]? = some u ∧ bs[j]? = some b ∧ IntsOwn W b L[j].1 L[j].2 u := fun j hj => by
  obtain ⟨u, b, k1, k2, k3⟩ := h30 j hj
  exact ⟨u, b, k1, k2, k3.below hbq⟩
 have hb := below1 W (.cells #[.slice ao len c] 28)
 have z := heap_new W (.cells #[.slice ao len c] 28)
 obtain ⟨zz, zc, -⟩ := block_of_cells z
 have hadd : ∀ j, (⟨W.heap.size, 0, none⟩ : Addr).add j = ⟨W.heap.size, j, none⟩ := fun j => by unfold Addr.add; split <;> simp_all
 obtain ⟨g, cap, w', hrun, hown, hgrow, hat, -⟩ := run_append_lies (P := Tryz.prog) (w := W.alloc (.cells #[.slice ao len c] 28)) 53 53 base 28 i0 _ 1 24 ht hi0 hz0 hz1 hz2 rfl (by omega) v L.length vs (h2.kept (grown_none hb) (by cases v.ownBlock <;> simp)) ⟨W.heap.size, 0, none⟩ 1 1 [.slice ao len c] rfl (fun j u hu => by
  rw [hadd]
  rcases j with _ | j
  ·cases hu
   exact zc 0
  ·simp at hu) (fun u hu => by
  rw [List.mem_singleton] at hu
  subst hu
  rfl) (by omega) (by unfold maxLen; omega) (by omega) (Nat.le_trans hbase hb.size) _ rfl
 have hsz : (W.alloc (.cells #[.slice ao len c] 28)).heap.size = W.heap.size + 1 := by simp
 have hbl : ∀ b ∈ bs, b < W.heap.size ∧ b ≠ gp := fun b hm => by
  obtain ⟨j, hj, e⟩ := List.mem_iff_getElem.1 hm
  obtain ⟨u, b', k1, k2, k3⟩ := h30 j (by omega)
  rw [List.getElem?_eq_getElem hj, e] at k2
  cases k2
  have := k3.lt
  have := hbq.size
  exact ⟨by omega, by omega⟩
 have key : ∀ (N2 : Int → Int) (len2 b : Nat) (u : Value), v.ownBlock ≠ some b → IntsOwn W b N2 len2 u → IntsOwn w' b N2 len2 u := fun N2 len2 b u hne h => h.of_block ((hgrow.block b (Nat.lt_of_lt_of_le h.lt hb.size) (fun e => hne e.symm)).trans (hb.block b h.lt))
 refine ⟨_, w', hrun, ⟨vs ++ [.slice ao len c], bs ++ [gp], by simp [h1], by simp [h0], by rw [List.length_append]; exact hown, fun b hb' => ?_, ?_, fun b hm => ?_, fun j hj => ?_⟩, hgrow, ?_⟩
 ·have hgb : g = b := by simpa [Value.ownBlock] using hb'
  subst hgb
  rcases hat with hat | hat
  ·refine ⟨(hvM g hat).1, fun hm => ?_⟩
   rcases List.mem_append.1 hm with hm | hm
   ·exact (hvM g hat).2 hm
   ·rw [List.mem_singleton] at hm
    exact hgp.2.2 (hm ▸ hat)
  ·refine ⟨fun hm => by have := hM g hm; omega, fun hm => ?_⟩
   rcases List.mem_append.1 hm with hm | hm
   ·have := (hbl g hm).1
    omega
   ·rw [List.mem_singleton] at hm
    have := hs.lt
    omega
 ·rw [List.nodup_append]
  refine ⟨hnd, by simp, fun a ha b hb e => ?_⟩
  rw [List.mem_singleton] at hb
  exact (hbl a ha).2 (e.trans hb)
 ·rcases List.mem_append.1 hm with hm | hm
  ·exact h4 b hm
  ·rw [List.mem_singleton] at hm
   rw [hm]
   exact ⟨hgp.1, hgp.2.1⟩
 ·rw [List.length_append, List.length_singleton] at hj
  rcases Nat.lt_or_ge j L.length with hlt | hge
  ·obtain ⟨x, b, k1, k2, k3⟩ := h3 j hlt
   refine ⟨x, b, by rw [List.getElem?_append_left (by omega)]; exact k1, by rw [List.getElem?_append_left (by omega)]; exact k2, ?_⟩
   rw [List.getElem_append_left hlt]
   exact key _ _ _ _ (fun e => (hvM b e).2 (List.mem_of_getElem? k2)) k3
  ·have e : j = L.length := by omega
   subst e
   refine ⟨.slice ao len c, gp, by rw [List.getElem?_append_right (by omega), h1]; simp, by rw [List.getElem?_append_right (by omega), h0]; simp, ?_⟩
   rw [List.getElem_append_right (Nat.le_refl _)]
   simp only [Nat.sub_self, List.getElem_cons_zero]
   exact key _ _ _ _ hgp.2.2 hs
 ·rcases hat with hat | hat
  ·exact Or.inl (by rw [hat]; rfl)
  ·exact Or.inr (by rw [hat, hsz]; rfl)
set_option maxRecDepth 100000 in
theorem partsOf_any (t : Tm) (w : World) (s : Value) : Calls Tryz.prog 97 #[.agg #[.int .i64 t.kind, .int .i64 t.num, s]] w
  (fun e w' => Below w.heap.size w w' ∧ ∃ b1, e = .returned (.func (.func 124) #[] #[.pointer (some ⟨b1, 0, none⟩)]) ∧ w.heap.size ≤ b1 ∧ VarAt b1 t.kind t.num s w') := by
 have HF : Hid ((fun (e : Ending) (w' : World) => Below w.heap.size w w' ∧ ∃ b1, e = .returned (.func (.func 124) #[] #[.pointer (some ⟨b1, 0, none⟩)]) ∧ w.heap.size ≤ b1 ∧ VarAt b1 t.kind t.num s w') (.returned (.func (.func 124) #[] #[.pointer (some ⟨w.heap.size, 0, none⟩)])) (w.alloc (.cells #[.int .i64 t.kind, .int .i64 t.num, s] 34))) := tuck ⟨below1 _ _, _, rfl, Nat.le_refl _, VarAt.new _ _ _ _⟩
 generalize (fun (e : Ending) (w' : World) => Below w.heap.size w w' ∧ ∃ b1, e = .returned (.func (.func 124) #[] #[.pointer (some ⟨b1, 0, none⟩)]) ∧ w.heap.size ≤ b1 ∧ VarAt b1 t.kind t.num s w') = post at *
 go_enter Tryz.func97, Tryz.ntmps97
 go_wp2_with fail
 exact HF.out
end Go.Proofs.YtpddjebdncaceaaGreat
