/-
  Two.
-/
import Derived.Deep.RegionHeld3
import Derived.Orders
namespace Go.Proofs.YtlbikgnanabjgaaGreat
open Go
section
variable {P : Program} {ops : Array Oper} {Q : Exit → Act → World → Prop} {md : Region.Mode} {S1 S2 : World → Prop} {m : Nat}
def ph (S1 S2 : World → Prop) (m : Nat) (L : Array Bool) (w : World) : Prop := if L.getD m true = false then S1 w else S2 w
theorem ph_one {L : Array Bool} {w : World} (h : L.getD m true = false) (hS : S1 w) : ph S1 S2 m L w := by
 unfold ph
 rw [if_pos h]
 exact hS
theorem ph_end {L : Array Bool} {w : World} (h : L.getD m true = true) (hS : S2 w) : ph S1 S2 m L w := by
 unfold ph
 rw [if_neg (by rw [h]; decide)]
 exact hS
def AnyTwo (P : Program) (md : Region.Mode) (ops : Array Oper) (Q : Exit → Act → World → Prop) (S1 S2 : World → Prop) (m : Nat) : Nat → Array Bool → Act → World → Prop
 | 0, L, a, w => Region.ready md ops L = [] ∧ Q .normal a w
 | fuel + 1, L, a, w => (Region.ready md ops L = [] → Q .normal a w) ∧ ∀ i ∈ Region.ready md ops L, wpOp P ops Q i (fun a' w' => ph S1 S2 m (L.setIfInBounds i true) w' ∧ AnyTwo P md ops Q S1 S2 m fuel (L.setIfInBounds i true) a' w') a w
theorem AnyTwo.any : ∀ (fuel : Nat) (L : Array Bool) (a : Act) (w : World), AnyTwo P md ops Q S1 S2 m fuel L a w → wpAny P md ops Q fuel L a w
 | 0, _, _, _, h => h
 | fuel + 1, _, _, _, h => ⟨h.1, fun i hi => wpOp_mono (fun a' w' h' => AnyTwo.any fuel _ a' w' h'.2) (h.2 i hi)⟩
theorem ph_set {L : Array Bool} {i j : Nat} {w : World} (hi : i ≠ m) (h : ph S1 S2 m ((L.setIfInBounds i true).setIfInBounds j true) w) : ph S1 S2 m (L.setIfInBounds j true) w := by
 unfold ph at *
 have e : ((L.setIfInBounds i true).setIfInBounds j true).getD m true = (L.setIfInBounds j true).getD m true := by
  by_cases hj : j = m
  ·subst hj
   rw [Array.setIfInBounds_comm _ _ hi, getD_set_ne true hi]
  ·rw [getD_set_ne true hj, getD_set_ne true hi, getD_set_ne true hj]
 rwa [e] at h
theorem AnyTwo.first {i : Nat} {oi om : Oper} {v : Value} (hi : ops[i]? = some oi) (hm : ops[m]? = some om) (hw : ∃ e ∈ om.after, Region.binds md e = true ∧ e.on = i) (him : i ≠ m) (hsel : ∀ (j : Nat) (o : Oper) cs b, ops[j]? = some o → o.op ≠ .select cs b)
  (hQ : ∀ c a w, Q (.panic c) (a.put oi.dst v) w → Q (.panic c) a w) :
  ∀ (fuel : Nat) (L : Array Bool) (a : Act) (w : World),
   (∀ j oj, ops[j]? = some oj → j ≠ i → L.getD j true = false → (∀ e ∈ oj.after, Region.binds md e = true → e.on ≠ i) → oi.apart ops oj = true) →
   i ∈ Region.ready md ops L → L.getD m true = false → YieldsIf P ops S1 oi v a → S1 w →
   AnyTwo P md ops Q S1 S2 m fuel (L.setIfInBounds i true) (a.put oi.dst v) w → AnyTwo P md ops Q S1 S2 m (fuel + 1) L a w := by
 intro fuel
 induction fuel with
 | zero =>
  intro L a w _ hr hun hy hS H
  refine ⟨fun h => (by rw [h] at hr; cases hr), fun j hj => ?_⟩
  by_cases hji : j = i
  ·subst hji
   refine hy.wpOp hi hS ⟨?_, H⟩
   unfold ph
   rw [getD_set_ne true him, if_pos hun]
   exact hS
  ·have := ready_mono hj hji
   rw [H.1] at this
   cases this
 | succ fuel ih =>
  intro L a w hfree hr hun hy hS H
  refine ⟨fun h => (by rw [h] at hr; cases hr), fun j hj => ?_⟩
  by_cases hji : j = i
  ·subst hji
   refine hy.wpOp hi hS ⟨?_, H⟩
   unfold ph
   rw [getD_set_ne true him, if_pos hun]
   exact hS
  ·have h1 := H.2 j (ready_mono hj hji)
   obtain ⟨hjun, oj, hoj, hall⟩ := mem_ready.1 hj
   have hnot : ∀ e ∈ oj.after, Region.binds md e = true → e.on ≠ i := fun e he hb heq => by
    have h1 := hall e he hb
    have h0 := (mem_ready.1 hr).1
    rw [heq] at h1
    rcases Nat.lt_or_ge i L.size with h' | h'
    ·simp [h'] at h0 h1; rw [h0] at h1; cases h1
    ·simp [Array.getElem?_eq_none h'] at h1
   have hjm : j ≠ m := by
    rintro rfl
    obtain ⟨e, he, hb, heq⟩ := hw
    rw [hm] at hoj
    cases hoj
    exact hnot e he hb heq
   have h2 := wpOp_putIf hoj (hfree j oj hoj hji hjun hnot) (fun cs b => hsel i oi cs b hi) (fun cs b => hsel j oj cs b hoj) hQ hy h1
   have hfree' : ∀ k ok, ops[k]? = some ok → k ≠ i → (L.setIfInBounds j true).getD k true = false →
     (∀ e ∈ ok.after, Region.binds md e = true → e.on ≠ i) → oi.apart ops ok = true := fun k ok hk hki hku hno => by
    refine hfree k ok hk hki ?_ hno
    by_cases hjk : j = k
    ·subst hjk; exact hjun
    ·rw [getD_set_ne true hjk] at hku; exact hku
   have hun' : (L.setIfInBounds j true).getD m true = false := by rw [getD_set_ne true hjm]; exact hun
   refine wpOp_mono (fun a' w' h3 => ?_) h2
   have hp := ph_set him h3.2.1
   have hs1 : S1 w' := by
    unfold ph at hp
    rw [if_pos hun'] at hp
    exact hp
   refine ⟨hp, ih (L.setIfInBounds j true) a' w' hfree' (ready_mono hr (Ne.symm hji)) hun' h3.1 hs1 ?_⟩
   rw [Array.setIfInBounds_comm _ _ hji]
   exact h3.2.2
theorem ph_two (hT : ∀ w, S1 w → S2 w) {L : Array Bool} {w : World} (h : ph S1 S2 m L w) : S2 w := by
 unfold ph at h
 split at h
 ·exact hT w h
 ·exact h
theorem AnyTwo.firstAny (hT : ∀ w, S1 w → S2 w) {i : Nat} {oi : Oper} {v : Value} (hi : ops[i]? = some oi) (him : i ≠ m) (hsel : ∀ (j : Nat) (o : Oper) cs b, ops[j]? = some o → o.op ≠ .select cs b)
  (hQ : ∀ c a w, Q (.panic c) (a.put oi.dst v) w → Q (.panic c) a w) :
  ∀ (fuel : Nat) (L : Array Bool) (a : Act) (w : World),
   (∀ j oj, ops[j]? = some oj → j ≠ i → L.getD j true = false → (∀ e ∈ oj.after, Region.binds md e = true → e.on ≠ i) → oi.apart ops oj = true) →
   i ∈ Region.ready md ops L → YieldsIf P ops S2 oi v a → ph S1 S2 m L w →
   AnyTwo P md ops Q S1 S2 m fuel (L.setIfInBounds i true) (a.put oi.dst v) w → AnyTwo P md ops Q S1 S2 m (fuel + 1) L a w := by
 intro fuel
 induction fuel with
 | zero =>
  intro L a w _ hr hy hS H
  refine ⟨fun h => (by rw [h] at hr; cases hr), fun j hj => ?_⟩
  by_cases hji : j = i
  ·subst hji
   refine hy.wpOp hi (ph_two hT hS) ⟨?_, H⟩
   unfold ph at *
   rwa [getD_set_ne true him]
  ·have := ready_mono hj hji
   rw [H.1] at this
   cases this
 | succ fuel ih =>
  intro L a w hfree hr hy hS H
  refine ⟨fun h => (by rw [h] at hr; cases hr), fun j hj => ?_⟩
  by_cases hji : j = i
  ·subst hji
   refine hy.wpOp hi (ph_two hT hS) ⟨?_, H⟩
   unfold ph at *
   rwa [getD_set_ne true him]
  ·have h1 := H.2 j (ready_mono hj hji)
   obtain ⟨hjun, oj, hoj, hall⟩ := mem_ready.1 hj
   have hnot : ∀ e ∈ oj.after, Region.binds md e = true → e.on ≠ i := fun e he hb heq => by
    have h1 := hall e he hb
    have h0 := (mem_ready.1 hr).1
    rw [heq] at h1
    rcases Nat.lt_or_ge i L.size with h' | h'
    ·simp [h'] at h0 h1; rw [h0] at h1; cases h1
    ·simp [Array.getElem?_eq_none h'] at h1
   have h2 := wpOp_putIf hoj (hfree j oj hoj hji hjun hnot) (fun cs b => hsel i oi cs b hi) (fun cs b => hsel j oj cs b hoj) hQ hy h1
   have hfree' : ∀ k ok, ops[k]? = some ok → k ≠ i → (L.setIfInBounds j true).getD k true = false →
     (∀ e ∈ ok.after, Region.binds md e = true → e.on ≠ i) → oi.apart ops ok = true := fun k ok hk hki hku hno => by
    refine hfree k ok hk hki ?_ hno
    by_cases hjk : j = k
    ·subst hjk; exact hjun
    ·rw [getD_set_ne true hjk] at hku; exact hku
   refine wpOp_mono (fun a' w' h3 => ?_) h2
   have hp := ph_set him h3.2.1
   refine ⟨hp, ih (L.setIfInBounds j true) a' w' hfree' (ready_mono hr (Ne.symm hji)) h3.1 hp ?_⟩
   rw [Array.setIfInBounds_comm _ _ hji]
   exact h3.2.2
theorem AnyTwo.take {i : Nat} {oi : Oper} {v : Value} {fuel : Nat} {L : Array Bool} {a : Act} {w : World} (hi : ops[i]? = some oi) (hs : Region.noSelect ops = true) (hf : Region.free md ops L i = true) (hr : (Region.ready md ops L).contains i = true)
  (hw : (match ops[m]? with | some om => om.after.any fun e => Region.binds md e && e.on == i | none => false) = true) (him : (i == m) = false) (hun : L.getD m true = false)
  (hQ : ∀ c a w, Q (.panic c) (a.put oi.dst v) w → Q (.panic c) a w) (hy : YieldsIf P ops S1 oi v a) (hS : S1 w)
  (h : AnyTwo P md ops Q S1 S2 m fuel (L.setIfInBounds i true) (a.put oi.dst v) w) : AnyTwo P md ops Q S1 S2 m (fuel + 1) L a w := by
 split at hw
 ·rename_i om hom
  simp only [Array.any_eq_true', Bool.and_eq_true, beq_iff_eq] at hw
  exact AnyTwo.first hi hom (by simpa using hw) (by simpa using him) (Region.noSelect_spec hs) hQ fuel L a w (Region.free_spec hi hf) (by simpa using hr) hun hy hS h
 ·cases hw
theorem AnyTwo.takeAny (hT : ∀ w, S1 w → S2 w) {i : Nat} {oi : Oper} {v : Value} {fuel : Nat} {L : Array Bool} {a : Act} {w : World} (hi : ops[i]? = some oi) (hs : Region.noSelect ops = true) (hf : Region.free md ops L i = true) (hr : (Region.ready md ops L).contains i = true)
  (him : (i == m) = false) (hQ : ∀ c a w, Q (.panic c) (a.put oi.dst v) w → Q (.panic c) a w) (hy : YieldsIf P ops S2 oi v a) (hS : ph S1 S2 m L w)
  (h : AnyTwo P md ops Q S1 S2 m fuel (L.setIfInBounds i true) (a.put oi.dst v) w) : AnyTwo P md ops Q S1 S2 m (fuel + 1) L a w :=
 AnyTwo.firstAny hT hi (by simpa using him) (Region.noSelect_spec hs) hQ fuel L a w (Region.free_spec hi hf) (by simpa using hr) hy hS h
theorem AnyTwo.tk (hT : ∀ w, S1 w → S2 w) {i : Nat} {oi : Oper} {v : Value} {fuel : Nat} {L : Array Bool} {a : Act} {w : World} (hi : ops[i]? = some oi) (hS : ph S1 S2 m L w)
  (h : AnyTwo P md ops Q S1 S2 m fuel (L.setIfInBounds i true) (a.put oi.dst v) w)
  (hs : Region.noSelect ops = true := by kernel_rfl) (hf : Region.free md ops L i = true := by kernel_rfl) (hr : (Region.ready md ops L).contains i = true := by decide +kernel)
  (him : (i == m) = false := by rfl) (hQ : ∀ c a w, Q (.panic c) (a.put oi.dst v) w → Q (.panic c) a w := by exact fun _ _ _ h => h)
  (hy : YieldsIf P ops S2 oi v a := by (refine Or.inl ⟨by rfl, ?_⟩; intro w hSw; (try dsimp only at hSw); go_simp; try (with_reducible rfl))) : AnyTwo P md ops Q S1 S2 m (fuel + 1) L a w := AnyTwo.takeAny hT hi hs hf hr him hQ hy hS h
theorem AnyTwo.sk (hT : ∀ w, S1 w → S2 w) {i : Nat} {oi : Oper} {fuel : Nat} {L : Array Bool} {a : Act} {w : World} (hi : ops[i]? = some oi) (hS : ph S1 S2 m L w)
  (h : AnyTwo P md ops Q S1 S2 m fuel (L.setIfInBounds i true) (a.put oi.dst undef) w)
  (hs : Region.noSelect ops = true := by kernel_rfl) (hf : Region.free md ops L i = true := by kernel_rfl) (hr : (Region.ready md ops L).contains i = true := by decide +kernel)
  (him : (i == m) = false := by rfl) (hQ : ∀ c a w, Q (.panic c) (a.put oi.dst undef) w → Q (.panic c) a w := by exact fun _ _ _ h => h)
  (hy : YieldsIf P ops S2 oi undef a := by exact Or.inr ⟨by rfl, rfl⟩) : AnyTwo P md ops Q S1 S2 m (fuel + 1) L a w := AnyTwo.takeAny hT hi hs hf hr him hQ hy hS h
theorem AnyTwo.step {i : Nat} {o : Oper} {fuel : Nat} {L : Array Bool} {a : Act} {w : World} (hr : Region.ready md ops L = [i]) (ho : ops[i]? = some o)
  (h : ∀ K' : Act → World → Prop, Shut (∀ a w, ph S1 S2 m (L.setIfInBounds i true) w → AnyTwo P md ops Q S1 S2 m fuel (L.setIfInBounds i true) a w → K' a w) → if Region.wanted o (yielded ops a.tmps) = true then Oper.wp P o a w K' Q else K' (a.put o.dst undef) w) :
  AnyTwo P md ops Q S1 S2 m (fuel + 1) L a w := by
 refine ⟨fun h0 => (by rw [hr] at h0; cases h0), fun j hj => ?_⟩
 rw [hr] at hj
 obtain rfl : j = i := by simpa using hj
 exact wpOp_step ho fun K' hK => h K' fun a w h1 h2 => hK a w ⟨h1, h2⟩
theorem AnyTwo.fork {i j : Nat} {o o' : Oper} {fuel : Nat} {L : Array Bool} {a : Act} {w : World} (hr : Region.ready md ops L = [i, j]) (ho : ops[i]? = some o) (ho' : ops[j]? = some o')
  (h : ∀ K' : Act → World → Prop, Shut (∀ a w, ph S1 S2 m (L.setIfInBounds i true) w → AnyTwo P md ops Q S1 S2 m fuel (L.setIfInBounds i true) a w → K' a w) → if Region.wanted o (yielded ops a.tmps) = true then Oper.wp P o a w K' Q else K' (a.put o.dst undef) w)
  (h' : ∀ K' : Act → World → Prop, Shut (∀ a w, ph S1 S2 m (L.setIfInBounds j true) w → AnyTwo P md ops Q S1 S2 m fuel (L.setIfInBounds j true) a w → K' a w) → if Region.wanted o' (yielded ops a.tmps) = true then Oper.wp P o' a w K' Q else K' (a.put o'.dst undef) w) :
  AnyTwo P md ops Q S1 S2 m (fuel + 1) L a w := by
 refine ⟨fun h0 => (by rw [hr] at h0; cases h0), fun l hl => ?_⟩
 rw [hr] at hl
 rcases List.mem_cons.1 hl with rfl | hl
 ·exact wpOp_step ho fun K' hK => h K' fun a w h1 h2 => hK a w ⟨h1, h2⟩
 ·obtain rfl : l = j := by simpa using hl
  exact wpOp_step ho' fun K' hK => h' K' fun a w h1 h2 => hK a w ⟨h1, h2⟩
theorem AnyTwo.fork3 {i0 i1 i2 : Nat} {o0 o1 o2 : Oper} {fuel : Nat} {L : Array Bool} {a : Act} {w : World} (hr : Region.ready md ops L = [i0, i1, i2]) (e0 : ops[i0]? = some o0) (e1 : ops[i1]? = some o1) (e2 : ops[i2]? = some o2)
  (h0 : ∀ K' : Act → World → Prop, Shut (∀ a w, ph S1 S2 m (L.setIfInBounds i0 true) w → AnyTwo P md ops Q S1 S2 m fuel (L.setIfInBounds i0 true) a w → K' a w) → if Region.wanted o0 (yielded ops a.tmps) = true then Oper.wp P o0 a w K' Q else K' (a.put o0.dst undef) w)
  (h1 : ∀ K' : Act → World → Prop, Shut (∀ a w, ph S1 S2 m (L.setIfInBounds i1 true) w → AnyTwo P md ops Q S1 S2 m fuel (L.setIfInBounds i1 true) a w → K' a w) → if Region.wanted o1 (yielded ops a.tmps) = true then Oper.wp P o1 a w K' Q else K' (a.put o1.dst undef) w)
  (h2 : ∀ K' : Act → World → Prop, Shut (∀ a w, ph S1 S2 m (L.setIfInBounds i2 true) w → AnyTwo P md ops Q S1 S2 m fuel (L.setIfInBounds i2 true) a w → K' a w) → if Region.wanted o2 (yielded ops a.tmps) = true then Oper.wp P o2 a w K' Q else K' (a.put o2.dst undef) w) :
  AnyTwo P md ops Q S1 S2 m (fuel + 1) L a w := by
 refine ⟨fun h0 => (by rw [hr] at h0; cases h0), fun l hl => ?_⟩
 rw [hr] at hl
 rcases List.mem_cons.1 hl with rfl | hl
 ·exact wpOp_step e0 fun K' hK => h0 K' fun a w h1 h2 => hK a w ⟨h1, h2⟩
 rcases List.mem_cons.1 hl with rfl | hl
 ·exact wpOp_step e1 fun K' hK => h1 K' fun a w h1 h2 => hK a w ⟨h1, h2⟩
 obtain rfl : l = i2 := by simpa using hl
 exact wpOp_step e2 fun K' hK => h2 K' fun a w h1 h2 => hK a w ⟨h1, h2⟩
theorem AnyTwo.fork4 {i0 i1 i2 i3 : Nat} {o0 o1 o2 o3 : Oper} {fuel : Nat} {L : Array Bool} {a : Act} {w : World} (hr : Region.ready md ops L = [i0, i1, i2, i3]) (e0 : ops[i0]? = some o0) (e1 : ops[i1]? = some o1) (e2 : ops[i2]? = some o2) (e3 : ops[i3]? = some o3)
  (h0 : ∀ K' : Act → World → Prop, Shut (∀ a w, ph S1 S2 m (L.setIfInBounds i0 true) w → AnyTwo P md ops Q S1 S2 m fuel (L.setIfInBounds i0 true) a w → K' a w) → if Region.wanted o0 (yielded ops a.tmps) = true then Oper.wp P o0 a w K' Q else K' (a.put o0.dst undef) w)
  (h1 : ∀ K' : Act → World → Prop, Shut (∀ a w, ph S1 S2 m (L.setIfInBounds i1 true) w → AnyTwo P md ops Q S1 S2 m fuel (L.setIfInBounds i1 true) a w → K' a w) → if Region.wanted o1 (yielded ops a.tmps) = true then Oper.wp P o1 a w K' Q else K' (a.put o1.dst undef) w)
  (h2 : ∀ K' : Act → World → Prop, Shut (∀ a w, ph S1 S2 m (L.setIfInBounds i2 true) w → AnyTwo P md ops Q S1 S2 m fuel (L.setIfInBounds i2 true) a w → K' a w) → if Region.wanted o2 (yielded ops a.tmps) = true then Oper.wp P o2 a w K' Q else K' (a.put o2.dst undef) w)
  (h3 : ∀ K' : Act → World → Prop, Shut (∀ a w, ph S1 S2 m (L.setIfInBounds i3 true) w → AnyTwo P md ops Q S1 S2 m fuel (L.setIfInBounds i3 true) a w → K' a w) → if Region.wanted o3 (yielded ops a.tmps) = true then Oper.wp P o3 a w K' Q else K' (a.put o3.dst undef) w) :
  AnyTwo P md ops Q S1 S2 m (fuel + 1) L a w := by
 refine ⟨fun h0 => (by rw [hr] at h0; cases h0), fun l hl => ?_⟩
 rw [hr] at hl
 rcases List.mem_cons.1 hl with rfl | hl
 ·exact wpOp_step e0 fun K' hK => h0 K' fun a w h1 h2 => hK a w ⟨h1, h2⟩
 rcases List.mem_cons.1 hl with rfl | hl
 ·exact wpOp_step e1 fun K' hK => h1 K' fun a w h1 h2 => hK a w ⟨h1, h2⟩
 rcases List.mem_cons.1 hl with rfl | hl
 ·exact wpOp_step e2 fun K' hK => h2 K' fun a w h1 h2 => hK a w ⟨h1, h2⟩
 obtain rfl : l = i3 := by simpa using hl
 exact wpOp_step e3 fun K' hK => h3 K' fun a w h1 h2 => hK a w ⟨h1, h2⟩
theorem AnyTwo.done {L : Array Bool} {a : Act} {w : World} (hr : Region.ready md ops L = []) (h : Q .normal a w) : ∀ fuel, AnyTwo P md ops Q S1 S2 m fuel L a w
 | 0 => ⟨hr, h⟩
 | _ + 1 => ⟨fun _ => h, by rw [hr]; simp⟩
theorem AnyTwo.begin {id : Nat} {a : Act} {w : World} (S1 S2 : World → Prop) (m : Nat) (hm : P.follows .mixedOrders = true)
  (h : AnyTwo P .any ops Q S1 S2 m ops.size (Array.replicate ops.size false) a w.drew) : (Code.region id ops true).wp P Q a w :=
 wp_region_any hm (AnyTwo.any _ _ _ _ h)
end
end Go.Proofs.YtlbikgnanabjgaaGreat
