/-
  ParseW, Two.
-/
import Derived.Test.YtihlbbbajaepoaaGreatQ02
import Derived.Deep.RegionHeld3
import Derived.Orders
namespace Go.Proofs.YtihlbbbajaepoaaGreat
open Go
section
variable {P : Program} {ops : Array Oper} {Q : Exit → Act → World → Prop} {md : Region.Mode} {S1 S2 : World → Prop} {m : Nat}
def ph (S1 S2 : World → Prop) (m : Nat) (L : Array Bool) (w : World) : Prop := if L.getD m true = false then S1 w else S2 w
theorem ph_one {L : Array Bool} {w : World} (h : L.getD m true = false) (hS : S1 w) : ph S1 S2 m L w := by
 unfold ph
 rw [if_pos h]
 exact hS
theorem ph_end {L : Array Bool} {w : World} (h : L.getD m true = true) (hS : S2 w) : ph S1 S2 m L w := by
 unfold ph
 rw [if_neg (by rw [h]; decide)]
 exact hS
def AnyTwo (P : Program) (md : Region.Mode) (ops : Array Oper) (Q : Exit → Act → World → Prop) (S1 S2 : World → Prop) (m : Nat) : Nat → Array Bool → Act → World → Prop
 | 0, L, a, w => Region.ready md ops L = [] ∧ Q .normal a w
 | fuel + 1, L, a, w => (Region.ready md ops L = [] → Q .normal a w) ∧ ∀ i ∈ Region.ready md ops L, wpOp P ops Q i (fun a' w' => ph S1 S2 m (L.setIfInBounds i true) w' ∧ AnyTwo P md ops Q S1 S2 m fuel (L.setIfInBounds i true) a' w') a w
theorem AnyTwo.any : ∀ (fuel : Nat) (L : Array Bool) (a : Act) (w : World), AnyTwo P md ops Q S1 S2 m fuel L a w → wpAny P md ops Q fuel L a w
 | 0, _, _, _, h => h
 | fuel + 1, _, _, _, h => ⟨h.1, fun i hi => wpOp_mono (fun a' w' h' => AnyTwo.any fuel _ a' w' h'.2) (h.2 i hi)⟩
theorem ph_set {L : Array Bool} {i j : Nat} {w : World} (hi : i ≠ m) (h : ph S1 S2 m ((L.setIfInBounds i true).setIfInBounds j true) w) : ph S1 S2 m (L.setIfInBounds j true) w := by
 unfold ph at *
 have e : ((L.setIfInBounds i true).setIfInBounds j true).getD m true = (L.setIfInBounds j true).getD m true := by
  by_cases hj : j = m
  ·subst hj
   rw [Array.setIfInBounds_comm _ _ hi, getD_set_ne true hi]
  ·rw [getD_set_ne true hj, getD_set_ne true hi, getD_set_ne true hj]
 rwa [e] at h
theorem AnyTwo.first {i : Nat} {oi om : Oper} {v : Value} (hi : ops[i]? = some oi) (hm : ops[m]? = some om) (hw : ∃ e ∈ om.after, Region.binds md e = true ∧ e.on = i) (him : i ≠ m) (hsel : ∀ (j : Nat) (o : Oper) cs b, ops[j]? = some o → o.op ≠ .select cs b)
  (hQ : ∀ c a w, Q (.panic c) (a.put oi.dst v) w → Q (.panic c) a w) :
  ∀ (fuel : Nat) (L : Array Bool) (a : Act) (w : World),
   (∀ j oj, ops[j]? = some oj → j ≠ i → L.getD j true = false → (∀ e ∈ oj.after, Region.binds md e = true → e.on ≠ i) → oi.apart ops oj = true) →
   i ∈ Region.ready md ops L → L.getD m true = false → YieldsIf P ops S1 oi v a → S1 w →
   AnyTwo P md ops Q S1 S2 m fuel (L.setIfInBounds i true) (a.put oi.dst v) w → AnyTwo P md ops Q S1 S2 m (fuel + 1) L a w := by
 intro fuel
 induction fuel with
 | zero =>
  intro L a w _ hr hun hy hS H
  refine ⟨fun h => (by rw [h] at hr; cases hr), fun j hj => ?_⟩
  by_cases hji : j = i
  ·subst hji
   refine hy.wpOp hi hS ⟨?_, H⟩
   unfold ph
   rw [getD_set_ne true him, if_pos hun]
   exact hS
  ·have := ready_mono hj hji
   rw [H.1] at this
   cases this
 | succ fuel ih =>
  intro L a w hfree hr hun hy hS H
  refine ⟨fun h => (by rw [h] at hr; cases hr), fun j hj => ?_⟩
  by_cases hji : j = i
  ·subst hji
   refine hy.wpOp hi hS ⟨?_, H⟩
   unfold ph
   rw [getD_set_ne true him, if_pos hun]
   exact hS
  ·have h1 := H.2 j (ready_mono hj hji)
   obtain ⟨hjun, oj, hoj, hall⟩ := mem_ready.1 hj
   have hnot : ∀ e ∈ oj.after, Region.binds md e = true → e.on ≠ i := fun e he hb heq => by
    have h1 := hall e he hb
    have h0 := (mem_ready.1 hr).1
    rw [heq] at h1
    rcases Nat.lt_or_ge i L.size with h' | h'
    ·simp [h'] at h0 h1; rw [h0] at h1; cases h1
    ·simp [Array.getElem?_eq_none h'] at h1
   have hjm : j ≠ m := by
    rintro rfl
    obtain ⟨e, he, hb, heq⟩ := hw
    rw [hm] at hoj
    cases hoj
    exact hnot e he hb heq
   have h2 := wpOp_putIf hoj (hfree j oj hoj hji hjun hnot) (fun cs b => hsel i oi cs b hi) (fun cs b => hsel j oj cs b hoj) hQ hy h1
   have hfree' : ∀ k ok, ops[k]? = some ok → k ≠ i → (L.setIfInBounds j true).getD k true = false →
     (∀ e ∈ ok.after, Region.binds md e = true → e.on ≠ i) → oi.apart ops ok = true := fun k ok hk hki hku hno => by
    refine hfree k ok hk hki ?_ hno
    by_cases hjk : j = k
    ·subst hjk; exact hjun
    ·rw [getD_set_ne true hjk] at hku; exact hku
   have hun' : (L.setIfInBounds j true).getD m true = false := by rw [getD_set_ne true hjm]; exact hun
   refine wpOp_mono (fun a' w' h3 => ?_) h2
   have hp := ph_set him h3.2.1
   have hs1 : S1 w' := by
    unfold ph at hp
    rw [if_pos hun'] at hp
    exact hp
   refine ⟨hp, ih (L.setIfInBounds j true) a' w' hfree' (ready_mono hr (Ne.symm hji)) hun' h3.1 hs1 ?_⟩
   rw [Array.setIfInBounds_comm _ _ hji]
   exact h3.2.2
theorem ph_two (hT : ∀ w, S1 w → S2 w) {L : Array Bool} {w : World} (h : ph S1 S2 m L w) : S2 w := by
 unfold ph at h
 split at h
 ·exact hT w h
 ·exact h
theorem AnyTwo.firstAny (hT : ∀ w, S1 w → S2 w) {i : Nat} {oi : Oper} {v : Value} (hi : ops[i]? = some oi) (him : i ≠ m) (hsel : ∀ (j : Nat) (o : Oper) cs b, ops[j]? = some o → o.op ≠ .select cs b)
  (hQ : ∀ c a w, Q (.panic c) (a.put oi.dst v) w → Q (.panic c) a w) :
  ∀ (fuel : Nat) (L : Array Bool) (a : Act) (w : World),
   (∀ j oj, ops[j]? = some oj → j ≠ i → L.getD j true = false → (∀ e ∈ oj.after, Region.binds md e = true → e.on ≠ i) → oi.apart ops oj = true) →
   i ∈ Region.ready md ops L → YieldsIf P ops S2 oi v a → ph S1 S2 m L w →
   AnyTwo P md ops Q S1 S2 m fuel (L.setIfInBounds i true) (a.put oi.dst v) w → AnyTwo P md ops Q S1 S2 m (fuel + 1) L a w := by
 intro fuel
 induction fuel with
 | zero =>
  intro L a w _ hr hy hS H
  refine ⟨fun h => (by rw [h] at hr; cases hr), fun j hj => ?_⟩
  by_cases hji : j = i
  ·subst hji
   refine hy.wpOp hi (ph_two hT hS) ⟨?_, H⟩
   unfold ph at *
   rwa [getD_set_ne true him]
  ·have := ready_mono hj hji
   rw [H.1] at this
   cases this
 | succ fuel ih =>
  intro L a w hfree hr hy hS H
  refine ⟨fun h => (by rw [h] at hr; cases hr), fun j hj => ?_⟩
  by_cases hji : j = i
  ·subst hji
   refine hy.wpOp hi (ph_two hT hS) ⟨?_, H⟩
   unfold ph at *
   rwa [getD_set_ne true him]
  ·have h1 := H.2 j (ready_mono hj hji)
   obtain ⟨hjun, oj, hoj, hall⟩ := mem_ready.1 hj
   have hnot : ∀ e ∈ oj.after, Region.binds md e = true → e.on ≠ i := fun e he hb heq => by
    have h1 := hall e he hb
    have h0 := (mem_ready.1 hr).1
    rw [heq] at h1
    rcases Nat.lt_or_ge i L.size with h' | h'
    ·simp [h'] at h0 h1; rw [h0] at h1; cases h1
    ·simp [Array.getElem?_eq_none h'] at h1
   have h2 := wpOp_putIf hoj (hfree j oj hoj hji hjun hnot) (fun cs b => hsel i oi cs b hi) (fun cs b => hsel j oj cs b hoj) hQ hy h1
   have hfree' : ∀ k ok, ops[k]? = some ok → k ≠ i → (L.setIfInBounds j true).getD k true = false →
     (∀ e ∈ ok.after, Region.binds md e = true → e.on ≠ i) → oi.apart ops ok = true := fun k ok hk hki hku hno => by
    refine hfree k ok hk hki ?_ hno
    by_cases hjk : j = k
    ·subst hjk; exact hjun
    ·rw [getD_set_ne true hjk] at hku; exact hku
   refine wpOp_mono (fun a' w' h3 => ?_) h2
   have hp := ph_set him h3.2.1
   refine ⟨hp, ih (L.setIfInBounds j true) a' w' hfree' (ready_mono hr (Ne.symm hji)) h3.1 hp ?_⟩
   rw [Array.setIfInBounds_comm _ _ hji]
   exact h3.2.2
theorem AnyTwo.take {i : Nat} {oi : Oper} {v : Value} {fuel : Nat} {L : Array Bool} {a : Act} {w : World} (hi : ops[i]? = some oi) (hs : Region.noSelect ops = true) (hf : Region.free md ops L i = true) (hr : (Region.ready md ops L).contains i = true)
  (hw : (match ops[m]? with | some om => om.after.any fun e => Region.binds md e && e.on == i | none => false) = true) (him : (i == m) = false) (hun : L.getD m true = false)
  (hQ : ∀ c a w, Q (.panic c) (a.put oi.dst v) w → Q (.panic c) a w) (hy : YieldsIf P ops S1 oi v a) (hS : S1 w)
  (h : AnyTwo P md ops Q S1 S2 m fuel (L.setIfInBounds i true) (a.put oi.dst v) w) : AnyTwo P md ops Q S1 S2 m (fuel + 1) L a w := by
 split at hw
 ·rename_i om hom
  simp only [Array.any_eq_true', Bool.and_eq_true, beq_iff_eq] at hw
  exact AnyTwo.first hi hom (by simpa using hw) (by simpa using him) (Region.noSelect_spec hs) hQ fuel L a w (Region.free_spec hi hf) (by simpa using hr) hun hy hS h
 ·cases hw
theorem AnyTwo.takeAny (hT : ∀ w, S1 w → S2 w) {i : Nat} {oi : Oper} {v : Value} {fuel : Nat} {L : Array Bool} {a : Act} {w : World} (hi : ops[i]? = some oi) (hs : Region.noSelect ops = true) (hf : Region.free md ops L i = true) (hr : (Region.ready md ops L).contains i = true)
  (him : (i == m) = false) (hQ : ∀ c a w, Q (.panic c) (a.put oi.dst v) w → Q (.panic c) a w) (hy : YieldsIf P ops S2 oi v a) (hS : ph S1 S2 m L w)
  (h : AnyTwo P md ops Q S1 S2 m fuel (L.setIfInBounds i true) (a.put oi.dst v) w) : AnyTwo P md ops Q S1 S2 m (fuel + 1) L a w :=
 AnyTwo.firstAny hT hi (by simpa using him) (Region.noSelect_spec hs) hQ fuel L a w (Region.free_spec hi hf) (by simpa using hr) hy hS h
theorem AnyTwo.step {i : Nat} {o : Oper} {fuel : Nat} {L : Array Bool} {a : Act} {w : World} (hr : Region.ready md ops L = [i]) (ho : ops[i]? = some o)
  (h : ∀ K' : Act → World → Prop, Shut (∀ a w, ph S1 S2 m (L.setIfInBounds i true) w → AnyTwo P md ops Q S1 S2 m fuel (L.setIfInBounds i true) a w → K' a w) → if Region.wanted o (yielded ops a.tmps) = true then Oper.wp P o a w K' Q else K' (a.put o.dst undef) w) :
  AnyTwo P md ops Q S1 S2 m (fuel + 1) L a w := by
 refine ⟨fun h0 => (by rw [hr] at h0; cases h0), fun j hj => ?_⟩
 rw [hr] at hj
 obtain rfl : j = i := by simpa using hj
 exact wpOp_step ho fun K' hK => h K' fun a w h1 h2 => hK a w ⟨h1, h2⟩
theorem AnyTwo.fork {i j : Nat} {o o' : Oper} {fuel : Nat} {L : Array Bool} {a : Act} {w : World} (hr : Region.ready md ops L = [i, j]) (ho : ops[i]? = some o) (ho' : ops[j]? = some o')
  (h : ∀ K' : Act → World → Prop, Shut (∀ a w, ph S1 S2 m (L.setIfInBounds i true) w → AnyTwo P md ops Q S1 S2 m fuel (L.setIfInBounds i true) a w → K' a w) → if Region.wanted o (yielded ops a.tmps) = true then Oper.wp P o a w K' Q else K' (a.put o.dst undef) w)
  (h' : ∀ K' : Act → World → Prop, Shut (∀ a w, ph S1 S2 m (L.setIfInBounds j true) w → AnyTwo P md ops Q S1 S2 m fuel (L.setIfInBounds j true) a w → K' a w) → if Region.wanted o' (yielded ops a.tmps) = true then Oper.wp P o' a w K' Q else K' (a.put o'.dst undef) w) :
  AnyTwo P md ops Q S1 S2 m (fuel + 1) L a w := by
 refine ⟨fun h0 => (by rw [hr] at h0; cases h0), fun l hl => ?_⟩
 rw [hr] at hl
 rcases List.mem_cons.1 hl with rfl | hl
 ·exact wpOp_step ho fun K' hK => h K' fun a w h1 h2 => hK a w ⟨h1, h2⟩
 ·obtain rfl : l = j := by simpa using hl
  exact wpOp_step ho' fun K' hK => h' K' fun a w h1 h2 => hK a w ⟨h1, h2⟩
theorem AnyTwo.done {L : Array Bool} {a : Act} {w : World} (hr : Region.ready md ops L = []) (h : Q .normal a w) : ∀ fuel, AnyTwo P md ops Q S1 S2 m fuel L a w
 | 0 => ⟨hr, h⟩
 | _ + 1 => ⟨fun _ => h, by rw [hr]; simp⟩
theorem AnyTwo.begin {id : Nat} {a : Act} {w : World} (S1 S2 : World → Prop) (m : Nat) (hm : P.follows .mixedOrders = true)
  (h : AnyTwo P .any ops Q S1 S2 m ops.size (Array.replicate ops.size false) a w.drew) : (Code.region id ops true).wp P Q a w :=
 wp_region_any hm (AnyTwo.any _ _ _ _ h)
end
end Go.Proofs.YtihlbbbajaepoaaGreat
namespace Go.Proofs.YtihlbbbajaepoaaGreat
open Go.RowKit
def decN (s : ByteArray) : Nat → Nat
 | 0 => 0
 | q + 1 => decN s q * 10 + (if h : q < s.size then s[q].toNat - 48 else 0)
def decOk (s : ByteArray) : Bool := decide (0 < s.size) && !(decide (1 < s.size) && (if h : 0 < s.size then s[0].toNat == 48 else false))
set_option maxRecDepth 100000 in
set_option maxHeartbeats 4000000 in
theorem num19_any (s : ByteArray) (hs : s.size ≤ 2) (hd : ∀ i (hi : i < s.size), 48 ≤ s[i].toNat ∧ s[i].toNat ≤ 57) (w : World) : Calls Tryz.prog 156 #[.string s] w fun e w' => w' = w ∧ e = .returned (.tuple #[.int .i64 (if decOk s = true then (decN s s.size : Int) else 0), .bool (decOk s)]) := by
 obtain ⟨post, hpost⟩ : ∃ post : Ending → World → Prop, post = fun e w' => w' = w ∧ e = .returned (.tuple #[.int .i64 (if decOk s = true then (decN s s.size : Int) else 0), .bool (decOk s)]) := ⟨_, rfl⟩
 rw [← hpost]
 have HN : Hid (decOk s = false → post (.returned (.tuple #[.int .i64 0, .bool false])) w) := tuck fun h => by rw [hpost, h]; exact ⟨rfl, rfl⟩
 have HY : Hid (decOk s = true → post (.returned (.tuple #[.int .i64 (decN s s.size : Int), .bool true])) w) := tuck fun h => by rw [hpost, h]; exact ⟨rfl, rfl⟩
 clear hpost
 by_cases h0 : s.size = 0
 ·have hk : decOk s = false := by simp [decOk, h0]
  replace HN := tuck (HN.out hk)
  have he : s = ByteArray.empty := ByteArray.size_eq_zero_iff.1 h0
  subst he
  clear HY hk hd hs
  go_enter Tryz.func156, Tryz.ntmps156
  go_wp2_with fail
  exact HN.out
 ·have hp : 0 < s.size := Nat.pos_of_ne_zero h0
  have hsz : ((s.size : Int) == 0) = false := by rw [beq_eq_false_iff_ne]; omega
  have hgt : decide ((0 : Int) < (s.size : Int)) = true := decide_eq_true (by omega)
  have h17 : decide ((17 : Int) < (s.size : Int)) = false := decide_eq_false (by omega)
  have hne : ((s[0].toNat : Int) == 45) = false := by have := hd 0 hp; simp; omega
  have HD := tuck hd
  by_cases hz : s[0].toNat = 48
  ·have hzb : ((s[0].toNat : Int) == 48) = true := by rw [hz]; rfl
   by_cases h1 : 1 < s.size
   ·have hk : decOk s = false := by simp [decOk, h1, hp, hz]
    replace HN := tuck (HN.out hk)
    have hgt1 : decide ((1 : Int) < (s.size : Int)) = true := decide_eq_true (by omega)
    clear HY hk hd hs hz
    go_enter Tryz.func156, Tryz.ntmps156
    go_wp2_with fail
    exact HN.out
   ·have hk : decOk s = true := by simp [decOk, h1, hp]
    replace HY := tuck (HY.out hk)
    have hgt1 : decide ((1 : Int) < (s.size : Int)) = false := decide_eq_false (by omega)
    clear HN hk hd hz
    go_enter Tryz.func156, Tryz.ntmps156
    go_wp2_with fail
    go_loopw [5, 6] (fun n i wr => ∃ (k q : Nat), n = .int .i64 k ∧ i = .int .i64 q ∧ q ≤ s.size ∧ k = decN s q ∧ (q = 0 → k = 0) ∧ (q = 1 → k ≤ 9) ∧ k ≤ 99 ∧ wr = w) (fun _ i _ => s.size - (intOf i).toNat)
    case atStart => exact ⟨0, 0, rfl, rfl, Nat.zero_le _, rfl, fun _ => rfl, fun h => by omega, by omega, rfl⟩
    case round =>
     obtain ⟨k, q, rfl, rfl, hq, hk, hk0, hk1, hk9, rfl⟩ := hrel
     by_cases hlt : q < s.size
     ·have hlti : decide ((q : Int) < (s.size : Int)) = true := decide_eq_true (by omega)
      have hlti2 : (q : Int) < (s.size : Int) := by omega
      obtain ⟨hd1, hd2⟩ := HD.out q hlt
      have hx1 : decide ((s[q].toNat : Int) < 48) = false := decide_eq_false (by omega)
      have hx2 : decide ((57 : Int) < (s[q].toNat : Int)) = false := decide_eq_false (by omega)
      have hkb : (k : Int) ≤ 9 := by
       have : q = 0 ∨ q = 1 := by omega
       rcases this with h | h
       ·have := hk0 h; omega
       ·have := hk1 h; omega
      have HK : Hid (decN s (q + 1) = k * 10 + (s[q].toNat - 48)) := tuck (by rw [decN, dif_pos hlt, ← hk])
      have HKB : Hid (k ≤ 9 ∧ (q = 0 → k = 0)) := tuck ⟨by omega, hk0⟩
      have HDB : Hid (48 ≤ s[q].toNat ∧ s[q].toNat ≤ 57) := tuck ⟨hd1, hd2⟩
      clear hk hk0 hk1
      go_wp2_with fail
      go_roundw
      case rel =>
       have h1 := HKB.out
       have h2 := HDB.out
       have h3 := HK.out
       exact ⟨decN s (q + 1), q + 1, by rw [h3]; congr 1; omega, by go_num, by omega, rfl, fun h => by omega, fun h => by have := h1.2 (by omega); omega, by omega, trivial⟩
      case measure => (simp [intOf]; try omega)
     ·have hlti : decide ((q : Int) < (s.size : Int)) = false := decide_eq_false (by omega)
      have hlti2 : ¬ (q : Int) < (s.size : Int) := by omega
      obtain rfl : q = s.size := by omega
      subst hk
      go_wp2_with fail
      exact HY.out
  ·have hzb : ((s[0].toNat : Int) == 48) = false := by simp; omega
   have hk : decOk s = true := by simp [decOk, hp, hz]
   replace HY := tuck (HY.out hk)
   clear HN hk hd
   go_enter Tryz.func156, Tryz.ntmps156
   go_wp2_with fail
   go_loopw [5, 6] (fun n i wr => ∃ (k q : Nat), n = .int .i64 k ∧ i = .int .i64 q ∧ q ≤ s.size ∧ k = decN s q ∧ (q = 0 → k = 0) ∧ (q = 1 → k ≤ 9) ∧ k ≤ 99 ∧ wr = w) (fun _ i _ => s.size - (intOf i).toNat)
   case atStart => exact ⟨0, 0, rfl, rfl, Nat.zero_le _, rfl, fun _ => rfl, fun h => by omega, by omega, rfl⟩
   case round =>
    obtain ⟨k, q, rfl, rfl, hq, hk, hk0, hk1, hk9, rfl⟩ := hrel
    by_cases hlt : q < s.size
    ·have hlti : decide ((q : Int) < (s.size : Int)) = true := decide_eq_true (by omega)
     have hlti2 : (q : Int) < (s.size : Int) := by omega
     obtain ⟨hd1, hd2⟩ := HD.out q hlt
     have hx1 : decide ((s[q].toNat : Int) < 48) = false := decide_eq_false (by omega)
     have hx2 : decide ((57 : Int) < (s[q].toNat : Int)) = false := decide_eq_false (by omega)
     have hkb : (k : Int) ≤ 9 := by
      have : q = 0 ∨ q = 1 := by omega
      rcases this with h | h
      ·have := hk0 h; omega
      ·have := hk1 h; omega
     have HK : Hid (decN s (q + 1) = k * 10 + (s[q].toNat - 48)) := tuck (by rw [decN, dif_pos hlt, ← hk])
     have HKB : Hid (k ≤ 9 ∧ (q = 0 → k = 0)) := tuck ⟨by omega, hk0⟩
     have HDB : Hid (48 ≤ s[q].toNat ∧ s[q].toNat ≤ 57) := tuck ⟨hd1, hd2⟩
     clear hk hk0 hk1
     go_wp2_with fail
     go_roundw
     case rel =>
      have h1 := HKB.out
      have h2 := HDB.out
      have h3 := HK.out
      exact ⟨decN s (q + 1), q + 1, by rw [h3]; congr 1; omega, by go_num, by omega, rfl, fun h => by omega, fun h => by have := h1.2 (by omega); omega, by omega, trivial⟩
     case measure => (simp [intOf]; try omega)
    ·have hlti : decide ((q : Int) < (s.size : Int)) = false := decide_eq_false (by omega)
     have hlti2 : ¬ (q : Int) < (s.size : Int) := by omega
     obtain rfl : q = s.size := by omega
     subst hk
     go_wp2_with fail
     exact HY.out
def digRun (s : ByteArray) : Nat → Nat → Nat
 | 0, _ => 0
 | d + 1, a => if h : a < s.size then (if 48 ≤ s[a].toNat ∧ s[a].toNat ≤ 57 then digRun s d (a + 1) + 1 else 0) else 0
theorem digRun_le (s : ByteArray) : ∀ d a, digRun s d a ≤ d
 | 0, _ => Nat.le_refl _
 | d + 1, a => by
  rw [digRun]
  split
  ·split
   ·have := digRun_le s d (a + 1); omega
   ·omega
  ·omega
theorem digRun_in (s : ByteArray) : ∀ d a, a ≤ s.size → a + digRun s d a ≤ s.size
 | 0, _, h => h
 | d + 1, a, h => by
  rw [digRun]
  split
  ·split
   ·have := digRun_in s d (a + 1) (by omega); omega
   ·omega
  ·omega
theorem digRun_dig (s : ByteArray) : ∀ d a i (hi : i < s.size), a ≤ i → i < a + digRun s d a → 48 ≤ s[i].toNat ∧ s[i].toNat ≤ 57
 | 0, a, i, _, h1, h2 => by rw [digRun] at h2; omega
 | d + 1, a, i, hi, h1, h2 => by
  rw [digRun] at h2
  split at h2
  ·split at h2
   ·by_cases e : i = a
    ·subst e; assumption
    ·exact digRun_dig s d (a + 1) i hi (by omega) (by omega)
   ·omega
  ·omega
def ptNum (s : ByteArray) (a d : Nat) : Option (Nat × Nat) :=
 if decOk (s.extract a (a + digRun s d a)) = true then some (decN (s.extract a (a + digRun s d a)) (s.extract a (a + digRun s d a)).size, a + digRun s d a) else none
set_option maxRecDepth 100000 in
set_option maxHeartbeats 4000000 in
theorem lnumber_any (s : ByteArray) (a d : Nat) (ha : a ≤ s.size) (hs : s.size ≤ 1152921504606846976) (hd : d ≤ 2) (w : World) : Calls Tryz.prog 146 #[.string s, .int .i64 a, .int .i64 d] w fun e w' => w' = w ∧
  e = match ptNum s a d with | some x => .returned (.tuple #[.int .i64 x.1, .int .i64 x.2]) | none => .returned (.tuple #[.int .i64 0, .int .i64 (-1)]) := by
 obtain ⟨post, hpost⟩ : ∃ post : Ending → World → Prop, post = fun e w' => w' = w ∧ e = match ptNum s a d with | some x => .returned (.tuple #[.int .i64 x.1, .int .i64 x.2]) | none => .returned (.tuple #[.int .i64 0, .int .i64 (-1)]) := ⟨_, rfl⟩
 rw [← hpost]
 have HP : Hid (∀ v, v = (match ptNum s a d with | some x => Ending.returned (.tuple #[.int .i64 x.1, .int .i64 x.2]) | none => .returned (.tuple #[.int .i64 0, .int .i64 (-1)])) → post v w) := tuck fun v h => by rw [hpost]; exact ⟨rfl, h⟩
 clear hpost
 have HIN := tuck (digRun_in s d a ha)
 have HLE := tuck (digRun_le s d a)
 have HDG := tuck (digRun_dig s d a)
 go_enter Tryz.func146, Tryz.ntmps146
 go_wp2_with fail
 go_loopw [8] (fun e wr => ∃ (k : Nat), e = .int .i64 ((a + k : Nat) : Int) ∧ k ≤ d ∧ digRun s d a = k + digRun s (d - k) (a + k) ∧ wr = w) (fun e _ => a + d - (intOf e).toNat)
 case atStart => exact ⟨0, by simp, Nat.zero_le _, by simp, rfl⟩
 case round =>
  obtain ⟨k, rfl, hk, hrun, rfl⟩ := hrel
  by_cases hkd : k < d
  ·have hkdi : decide (((a + k : Nat) : Int) < (a : Int) + (d : Int)) = true := decide_eq_true (by omega)
   obtain ⟨m, hm⟩ : ∃ m, d - k = m + 1 := ⟨d - k - 1, by omega⟩
   have hm' : d - (k + 1) = m := by omega
   rw [hm, digRun] at hrun
   by_cases hlt : a + k < s.size
   ·have hlti : decide (((a + k : Nat) : Int) < (s.size : Int)) = true := decide_eq_true (by omega)
    have hlti2 : ((a + k : Nat) : Int) < (s.size : Int) := by omega
    rw [dif_pos hlt] at hrun
    by_cases hdg : 48 ≤ s[a + k].toNat ∧ s[a + k].toNat ≤ 57
    ·rw [if_pos hdg] at hrun
     have hx1 : decide ((48 : Int) ≤ (s[a + k].toNat : Int)) = true := decide_eq_true (by omega)
     have hx2 : decide ((s[a + k].toNat : Int) ≤ 57) = true := decide_eq_true (by omega)
     have HR : Hid (digRun s d a = (k + 1) + digRun s (d - (k + 1)) (a + (k + 1))) := tuck (by rw [hm', show a + (k + 1) = a + k + 1 by omega]; omega)
     clear hrun hm hm'
     go_wp2_with fail
     go_roundw
     case rel => exact ⟨k + 1, by simp; omega, by omega, HR.out, trivial⟩
     case measure => (simp [intOf]; try omega)
    ·rw [if_neg hdg, Nat.add_zero] at hrun
     have hE := hrun
     have hx12 : decide ((48 : Int) ≤ (s[a + k].toNat : Int)) = false ∨ (decide ((48 : Int) ≤ (s[a + k].toNat : Int)) = true ∧ decide ((s[a + k].toNat : Int) ≤ 57) = false) := by
      by_cases h48 : 48 ≤ s[a + k].toNat
      ·exact Or.inr ⟨decide_eq_true (by omega), decide_eq_false (by omega)⟩
      ·exact Or.inl (decide_eq_false (by omega))
     clear hm hm' hdg
     rcases hx12 with hx1 | ⟨hx1, hx2⟩
     ·have hin := HIN.out
      rw [hE] at hin
      have hsl1 : (a : Int) ≤ ((a + k : Nat) : Int) := by omega
      have hsl2 : ((a + k : Nat) : Int) ≤ (s.size : Int) := by omega
      have hse : (s.extract a (a + k)).size = k := by rw [ByteArray.size_extract]; omega
      have HNUM := tuck (num19_any (s.extract a (a + k)) (by have := HLE.out; omega) (fun i hi => by
       rw [ByteArray.getElem_extract]
       exact HDG.out (a + i) (by omega) (by omega) (by omega)))
      have HQ := tuck (HP.out)
      unfold ptNum at HQ
      rw [hE] at HQ
      clear HP HIN HLE HDG hrun hE
      go_wp2_with fail
      refine (HNUM.out _).mono ?_
      rintro e w' ⟨rfl, rfl⟩
      by_cases hok : decOk (s.extract a (a + k)) = true
      ·rw [if_pos hok, hok]
       rw [if_pos hok] at HQ
       go_wp2_with fail
       (refine HQ.out _ ?_; simp [hse, go_sem])
      ·have hok' : decOk (s.extract a (a + k)) = false := by simpa using hok
       rw [if_neg hok, hok']
       rw [if_neg hok] at HQ
       go_wp2_with fail
       exact HQ.out _ rfl
     ·have hin := HIN.out
      rw [hE] at hin
      have hsl1 : (a : Int) ≤ ((a + k : Nat) : Int) := by omega
      have hsl2 : ((a + k : Nat) : Int) ≤ (s.size : Int) := by omega
      have hse : (s.extract a (a + k)).size = k := by rw [ByteArray.size_extract]; omega
      have HNUM := tuck (num19_any (s.extract a (a + k)) (by have := HLE.out; omega) (fun i hi => by
       rw [ByteArray.getElem_extract]
       exact HDG.out (a + i) (by omega) (by omega) (by omega)))
      have HQ := tuck (HP.out)
      unfold ptNum at HQ
      rw [hE] at HQ
      clear HP HIN HLE HDG hrun hE
      go_wp2_with fail
      refine (HNUM.out _).mono ?_
      rintro e w' ⟨rfl, rfl⟩
      by_cases hok : decOk (s.extract a (a + k)) = true
      ·rw [if_pos hok, hok]
       rw [if_pos hok] at HQ
       go_wp2_with fail
       (refine HQ.out _ ?_; simp [hse, go_sem])
      ·have hok' : decOk (s.extract a (a + k)) = false := by simpa using hok
       rw [if_neg hok, hok']
       rw [if_neg hok] at HQ
       go_wp2_with fail
       exact HQ.out _ rfl
   ·have hlti : decide (((a + k : Nat) : Int) < (s.size : Int)) = false := decide_eq_false (by omega)
    rw [dif_neg hlt, Nat.add_zero] at hrun
    have hE := hrun
    clear hm hm'
    have hin := HIN.out
    rw [hE] at hin
    have hsl1 : (a : Int) ≤ ((a + k : Nat) : Int) := by omega
    have hsl2 : ((a + k : Nat) : Int) ≤ (s.size : Int) := by omega
    have hse : (s.extract a (a + k)).size = k := by rw [ByteArray.size_extract]; omega
    have HNUM := tuck (num19_any (s.extract a (a + k)) (by have := HLE.out; omega) (fun i hi => by
     rw [ByteArray.getElem_extract]
     exact HDG.out (a + i) (by omega) (by omega) (by omega)))
    have HQ := tuck (HP.out)
    unfold ptNum at HQ
    rw [hE] at HQ
    clear HP HIN HLE HDG hrun hE
    go_wp2_with fail
    refine (HNUM.out _).mono ?_
    rintro e w' ⟨rfl, rfl⟩
    by_cases hok : decOk (s.extract a (a + k)) = true
    ·rw [if_pos hok, hok]
     rw [if_pos hok] at HQ
     go_wp2_with fail
     (refine HQ.out _ ?_; simp [hse, go_sem])
    ·have hok' : decOk (s.extract a (a + k)) = false := by simpa using hok
     rw [if_neg hok, hok']
     rw [if_neg hok] at HQ
     go_wp2_with fail
     exact HQ.out _ rfl
  ·have hkdi : decide (((a + k : Nat) : Int) < (a : Int) + (d : Int)) = false := decide_eq_false (by omega)
   rw [show d - k = 0 by omega, digRun, Nat.add_zero] at hrun
   have hE := hrun
   by_cases hlt : a + k < s.size
   ·have hlti : decide (((a + k : Nat) : Int) < (s.size : Int)) = true := decide_eq_true (by omega)
    have hin := HIN.out
    rw [hE] at hin
    have hsl1 : (a : Int) ≤ ((a + k : Nat) : Int) := by omega
    have hsl2 : ((a + k : Nat) : Int) ≤ (s.size : Int) := by omega
    have hse : (s.extract a (a + k)).size = k := by rw [ByteArray.size_extract]; omega
    have HNUM := tuck (num19_any (s.extract a (a + k)) (by have := HLE.out; omega) (fun i hi => by
     rw [ByteArray.getElem_extract]
     exact HDG.out (a + i) (by omega) (by omega) (by omega)))
    have HQ := tuck (HP.out)
    unfold ptNum at HQ
    rw [hE] at HQ
    clear HP HIN HLE HDG hrun hE
    go_wp2_with fail
    refine (HNUM.out _).mono ?_
    rintro e w' ⟨rfl, rfl⟩
    by_cases hok : decOk (s.extract a (a + k)) = true
    ·rw [if_pos hok, hok]
     rw [if_pos hok] at HQ
     go_wp2_with fail
     (refine HQ.out _ ?_; simp [hse, go_sem])
    ·have hok' : decOk (s.extract a (a + k)) = false := by simpa using hok
     rw [if_neg hok, hok']
     rw [if_neg hok] at HQ
     go_wp2_with fail
     exact HQ.out _ rfl
   ·have hlti : decide (((a + k : Nat) : Int) < (s.size : Int)) = false := decide_eq_false (by omega)
    have hin := HIN.out
    rw [hE] at hin
    have hsl1 : (a : Int) ≤ ((a + k : Nat) : Int) := by omega
    have hsl2 : ((a + k : Nat) : Int) ≤ (s.size : Int) := by omega
    have hse : (s.extract a (a + k)).size = k := by rw [ByteArray.size_extract]; omega
    have HNUM := tuck (num19_any (s.extract a (a + k)) (by have := HLE.out; omega) (fun i hi => by
     rw [ByteArray.getElem_extract]
     exact HDG.out (a + i) (by omega) (by omega) (by omega)))
    have HQ := tuck (HP.out)
    unfold ptNum at HQ
    rw [hE] at HQ
    clear HP HIN HLE HDG hrun hE
    go_wp2_with fail
    refine (HNUM.out _).mono ?_
    rintro e w' ⟨rfl, rfl⟩
    by_cases hok : decOk (s.extract a (a + k)) = true
    ·rw [if_pos hok, hok]
     rw [if_pos hok] at HQ
     go_wp2_with fail
     (refine HQ.out _ ?_; simp [hse, go_sem])
    ·have hok' : decOk (s.extract a (a + k)) = false := by simpa using hok
     rw [if_neg hok, hok']
     rw [if_neg hok] at HQ
     go_wp2_with fail
     exact HQ.out _ rfl
end Go.Proofs.YtihlbbbajaepoaaGreat
