/-
  PlAB.
-/
import Derived.Test.YtihlbbbajaepoaaB45
namespace Go.Proofs.Ytihlbbbajaepoaa
open Go.RowKit
def tot : List ((Int → Int) × Nat) → Nat
 | [] => 0
 | (_, n) :: L => n + tot L
def markSS : List ((Int → Int) × Nat) → Int → List ((Int → Int) × Nat)
 | [], _ => []
 | (_, n) :: L, k => (fun i => k + i, n) :: markSS L (k + n)
theorem markSS_length : ∀ (L : List ((Int → Int) × Nat)) (k : Int), (markSS L k).length = L.length
 | [], _ => rfl
 | (_, n) :: L, k => by rw [markSS, List.length_cons, List.length_cons, markSS_length L]
theorem tot_take_succ : ∀ (L : List ((Int → Int) × Nat)) (q : Nat) (h : q < L.length), tot (L.take (q + 1)) = tot (L.take q) + L[q].2
 | [], q, h => by simp at h
 | (N, n) :: L, 0, h => by simp [tot]
 | (N, n) :: L, q + 1, h => by
  have := tot_take_succ L q (by simpa using h)
  simp only [List.take_succ_cons, tot, List.getElem_cons_succ]
  rw [this]
  omega
theorem tot_take_le : ∀ (L : List ((Int → Int) × Nat)) (q : Nat), tot (L.take q) ≤ tot L
 | [], q => by simp [tot]
 | (N, n) :: L, 0 => by simp [tot]
 | (N, n) :: L, q + 1 => by
  have := tot_take_le L q
  simp only [List.take_succ_cons, tot]
  omega
theorem tot_bound (m : Nat) : ∀ (L : List ((Int → Int) × Nat)), (∀ x ∈ L, x.2 ≤ m) → tot L ≤ L.length * m
 | [], _ => by simp [tot]
 | (N, n) :: L, h => by
  have h1 := tot_bound m L (fun x hx => h x (List.mem_cons_of_mem _ hx))
  have h2 : n ≤ m := h (N, n) (by simp)
  rw [tot, List.length_cons, Nat.add_mul]
  omega
theorem markSS_get : ∀ (L : List ((Int → Int) × Nat)) (k : Int) (j : Nat) (h : j < L.length), (markSS L k)[j]'(by rw [markSS_length]; exact h) = (fun i => k + (tot (L.take j) : Int) + i, L[j].2)
 | [], _, j, h => by simp at h
 | (N, n) :: L, k, 0, h => by simp [markSS, tot]
 | (N, n) :: L, k, j + 1, h => by
  have := markSS_get L (k + n) j (by simpa using h)
  simp only [markSS, List.getElem_cons_succ, List.take_succ_cons, tot]
  rw [this]
  congr 1
  funext i
  push_cast
  omega
theorem RowP.get {base : Nat} {L : List ((Int → Int) × Nat)} {v : Value} {w : World} (h : RowP base L v w) : ∃ a cap g, v = .slice a L.length cap ∧ ∀ j (hj : j < L.length), a = some ⟨g, 0, none⟩ ∧ base ≤ g ∧ g < w.heap.size ∧ ∃ ua uc, w.cell? ⟨g, j, none⟩ = some (.slice ua L[j].2 uc) ∧ IsX w (fun i => g = i) L[j].1 L[j].2 (.slice ua L[j].2 uc) := by
 obtain ⟨vs, h1, h2, h3⟩ := h
 have hrow := h2
 rcases h2.2 with ⟨rfl, h0⟩ | ⟨g, cap, cur, rfl, hb, hg, -⟩
 ·exact ⟨none, 0, 0, by rw [h0], fun j hj => absurd hj (by omega)⟩
 ·refine ⟨_, cap, g, rfl, fun j hj => ⟨rfl, hb, (block_of_cells hg).1, ?_⟩⟩
  obtain ⟨u, k1, k2⟩ := h3 j hj
  obtain ⟨ua, uc, rfl⟩ := k2.form
  have hc := hrow.cells (g := g) rfl j _ k1
  have hadd : (⟨g, 0, none⟩ : Addr).add j = ⟨g, j, none⟩ := by unfold Addr.add; split <;> simp_all
  rw [hadd] at hc
  refine ⟨ua, uc, hc, k2.to fun b hx hbw => ⟨fun e => hx (by rw [e]; rfl), hbw, fun _ => rfl⟩⟩
set_option maxRecDepth 100000 in
theorem eqIntSS_any (L : List ((Int → Int) × Nat)) (B1 B2 : Nat) (w : World) (v1 v2 : Value) (hL : L.length ≤ 1048576) (h0 : ∀ x ∈ L, x.2 ≤ 1048576) (h1 : RowP B1 L v1 w) (h2 : RowP B2 L v2 w) : Calls Try.prog 12 #[v1, v2] w (EqPost w true) := by
 obtain ⟨a, cap, g, rfl, hc⟩ := h1.get
 obtain ⟨a', cap', g', rfl, hc'⟩ := h2.get
 have HC := tuck hc
 have HC' := tuck hc'
 have HEI : Hid (∀ (j : Nat) (hj : j < L.length) (W : World) (u1 u2 : Value), Ints W 0 L[j].1 L[j].2 u1 → Ints W 0 L[j].1 L[j].2 u2 → Calls Try.prog 40 #[u1, u2] W (EqPost W true)) := tuck fun j hj W u1 u2 => eqInts_any _ _ W u1 u2 (h0 _ (List.getElem_mem hj))
 clear hc hc' h0 h1 h2
 have hll : ((L.length : Int) != (L.length : Int)) = false := by simp
 go_enter Try.func12, Try.ntmps12
 go_wp2
 go_loopw [5] (fun i wr => ∃ q : Nat, q ≤ L.length ∧ i = .int .i64 q ∧ Below w.heap.size w wr) (fun i _ => L.length - (intOf i).toNat)
 case atStart => exact ⟨0, Nat.zero_le _, rfl, Below.refl _ _⟩
 case round =>
  obtain ⟨q, hq, rfl, hb⟩ := hrel
  by_cases hlt : q < L.length
  ·have hlti : ((q : Int) < (L.length : Int)) := by omega
   have hqi : (0 : Int) ≤ (q : Int) := by omega
   obtain ⟨rfl, -, hg, ua, uc, k1, k2⟩ := HC.out q hlt
   obtain ⟨rfl, -, hg', ua', uc', k1', k2'⟩ := HC'.out q hlt
   have c0 := (hb.cell (p := ⟨g, q, none⟩) hg).trans k1
   have c1 := (hb.cell (p := ⟨g', q, none⟩) hg').trans k1'
   have HI := tuck (k2.below hb.drew).ints
   have HI' := tuck (k2'.below hb.drew).ints
   have HB := tuck hb
   clear hb k1 k1' k2 k2' hg hg'
   go_wp2_with fail
   go_still_tail 8, (by kernel_rfl)
   change wpList _ _ _ _ _ wr.drew
   go_wp2_with (go_at_call 40; refine (HEI.out q hlt _ _ _ HI.out HI'.out).mono ?_; rintro e w2 ⟨rfl, hb2⟩)
   have HB2 := tuck (bAfter HB.out.drew hb2)
   clear hb2 HI HI' HB c0 c1
   go_roundw
   case rel => exact ⟨q + 1, by omega, by go_num, HB2.out⟩
   case measure => simp [intOf]; omega
  ·have hge2 : ¬ ((q : Int) < (L.length : Int)) := by omega
   have HB := tuck hb
   clear hb
   go_wp2
   go_ret
   exact ⟨rfl, HB.out⟩
def IntsB (w : World) (g : Nat) (N : Int → Int) (len : Nat) (v : Value) : Prop :=
 ∃ a cap, v = .slice a len cap ∧ (0 < len → a = some ⟨g, 0, none⟩ ∧ ∃ cs : Array Value, w.heap[g]? = some (.cells cs 3 (0, 0)) ∧ len ≤ cs.size ∧ ∀ i : Nat, i < len → cs[i]? = some (.int .i64 (N i)))
theorem IntsOwn.isB {w : World} {g : Nat} {N : Int → Int} {len : Nat} {v : Value} (h : IntsOwn w g N len v) : IntsB w g N len v := by
 obtain ⟨cs, h1, h2, h3⟩ := h.block
 exact ⟨_, _, h.form, fun _ => ⟨rfl, cs, h1, by omega, h3⟩⟩
theorem IntsB.form {w : World} {g : Nat} {N : Int → Int} {len : Nat} {v : Value} (h : IntsB w g N len v) : ∃ a cap, v = .slice a len cap := by
 obtain ⟨a, cap, e, -⟩ := h
 exact ⟨a, cap, e⟩
theorem IntsB.of_block {w w' : World} {g : Nat} {N : Int → Int} {len : Nat} {v : Value} (h : IntsB w g N len v) (hb : w'.heap[g]? = w.heap[g]?) : IntsB w' g N len v := by
 obtain ⟨a, cap, e, h1⟩ := h
 exact ⟨a, cap, e, fun h0 => by
  obtain ⟨ea, cs, k1, k2⟩ := h1 h0
  exact ⟨ea, cs, hb.trans k1, k2⟩⟩
theorem IntsB.isX {w : World} {X : Nat → Prop} {g len : Nat} {N : Int → Int} {v : Value} (h : IntsB w g N len v) (hX : ¬ X g) : IsX w X N len v := by
 obtain ⟨a, cap, e, h1⟩ := h
 refine ⟨a, cap, g, 0, e, fun h0 => ?_, fun i hi => ?_⟩
 ·obtain ⟨ea, cs, k1, -⟩ := h1 h0
  exact ⟨ea, hX, (block_of_cells k1).1⟩
 ·obtain ⟨-, cs, k1, -, k3⟩ := h1 (by omega)
  rw [Nat.zero_add]
  exact ((block_of_cells k1).2.1 i).trans (k3 i hi)
set_option maxRecDepth 100000 in
theorem markN_any (N : Int → Int) (len g : Nat) (k : Int) (w : World) (v : Value) (h0 : len ≤ 1048576) (hk0 : 0 ≤ k) (hk1 : k + len ≤ 4611686018427387904) (h : IntsB w g N len v) : Calls Try.prog 41 #[v, .int .i64 k] w fun e w' => e = .returned (.int .i64 (k + len)) ∧ But [g] w w' ∧ IntsB w' g (fun i => k + i) len v := by
 obtain ⟨a, cap, rfl, hp⟩ := h
 have HP := tuck hp
 have HF : Hid (∀ W kq, kq = k + (len : Int) → But [g] w W → (0 < len → ∃ cs : Array Value, W.heap[g]? = some (.cells cs 3 (0, 0)) ∧ len ≤ cs.size ∧ ∀ j : Nat, j < len → cs[j]? = some (.int .i64 (k + j))) → (fun (e : Ending) (w' : World) => e = .returned (.int .i64 (k + len)) ∧ But [g] w w' ∧ IntsB w' g (fun i => k + i) len (.slice a len cap)) (.returned (.int .i64 kq)) W) := tuck fun W kq e hb h => ⟨by rw [e], hb, a, cap, rfl, fun h0 => ⟨(hp h0).1, h h0⟩⟩
 clear hp
 generalize (fun (e : Ending) (w' : World) => e = .returned (.int .i64 (k + len)) ∧ But [g] w w' ∧ IntsB w' g (fun i => k + i) len (.slice a len cap)) = post at *
 go_enter Try.func41, Try.ntmps41
 go_wp2
 go_loopw [5, 1] (fun i kk wr => ∃ (q : Nat) (kq : Int), q ≤ len ∧ i = .int .i64 q ∧ kk = .int .i64 kq ∧ kq = k + q ∧ But [g] w wr ∧ (0 < len → ∃ cs : Array Value, wr.heap[g]? = some (.cells cs 3 (0, 0)) ∧ len ≤ cs.size ∧ ∀ j : Nat, j < q → cs[j]? = some (.int .i64 (k + j)))) (fun i _ _ => len - (intOf i).toNat)
 case atStart => exact ⟨0, k, Nat.zero_le _, rfl, rfl, by simp, But.refl _ _, fun h0 => by
  obtain ⟨-, cs, k1, k2, -⟩ := HP.out h0
  exact ⟨cs, k1, k2, fun j hj => absurd hj (by omega)⟩⟩
 case round =>
  obtain ⟨q, kq, hq, rfl, rfl, hkq, hb, hcs⟩ := hrel
  by_cases hlt : q < len
  ·have hlti : ((q : Int) < (len : Int)) := by omega
   have hqi : (0 : Int) ≤ (q : Int) := by omega
   obtain ⟨cs, hcs, hcz', hN⟩ := hcs (by omega)
   obtain ⟨rfl, -⟩ := HP.out (by omega)
   have hbo := block_of_cells hcs
   have d0 : wr.cell? ⟨g, q, none⟩ = some (cs[q]'(by omega)) := by rw [hbo.2.1 q]; simp
   have df := hbo.2.2 q
   have HB := tuck hb
   have HCS' := tuck hcs
   have HN := tuck hN
   have HKQ := tuck hkq
   have hkb : 0 ≤ kq ∧ kq ≤ 4611686018427387904 := by omega
   obtain ⟨hkb0, hkb1⟩ := hkb
   clear hb hcs hbo hkq hN
   go_wp2
   go_roundw
   case rel => exact ⟨q + 1, kq + 1, by omega, by go_num, rfl, by have := HKQ.out; omega, HB.out.setCell (by simp) _, fun _ => ⟨_, block_set HCS'.out q _, by simpa using hcz', fun j hj => by
    by_cases hjq : j = q
    ·subst hjq
     rw [Array.getElem?_setIfInBounds_self_of_lt (by omega)]
     have := HKQ.out
     rw [this]
    ·rw [Array.getElem?_setIfInBounds_ne (by omega)]
     exact HN.out j (by omega)⟩⟩
   case measure => simp [intOf]; omega
  ·have hge2 : ¬ ((q : Int) < (len : Int)) := by omega
   have e : q = len := by omega
   subst e
   have HB := tuck hb
   have HKQ := tuck hkq
   have HCS := tuck hcs
   clear hb hkq hcs
   go_wp2
   exact HF.out _ _ HKQ.out HB.out HCS.out
set_option maxRecDepth 100000 in
theorem heldN_any (len : Nat) (k : Int) (w : World) (v : Value) (hk0 : 0 ≤ k) (hk1 : k + len ≤ 4611686018427387904) (h : Ints w 0 (fun i => k + i) len v) : Calls Try.prog 42 #[v, .int .i64 k] w (IntPost' w (k + len)) := by
 obtain ⟨a, cap, b, o, rfl, hp, hc⟩ := h
 have HP := tuck hp
 have HC := tuck hc
 clear hp hc
 have HF : Hid (∀ W kq, kq = k + (len : Int) → Below w.heap.size w W → IntPost' w (k + len) (.returned (.int .i64 kq)) W) := tuck fun W kq e hb => ⟨by rw [e], hb⟩
 generalize IntPost' w (k + len) = post at *
 go_enter Try.func42, Try.ntmps42
 go_wp2
 go_loopw [5, 1] (fun i kk wr => ∃ (q : Nat) (kq : Int), q ≤ len ∧ i = .int .i64 q ∧ kk = .int .i64 kq ∧ kq = k + q ∧ Below w.heap.size w wr) (fun i _ _ => len - (intOf i).toNat)
 case atStart => exact ⟨0, k, Nat.zero_le _, rfl, rfl, by simp, Below.refl _ _⟩
 case round =>
  obtain ⟨q, kq, hq, rfl, rfl, hkq, hb⟩ := hrel
  by_cases hlt : q < len
  ·have hlti : ((q : Int) < (len : Int)) := by omega
   have hqi : (0 : Int) ≤ (q : Int) := by omega
   obtain ⟨rfl, _, hbw⟩ := HP.out (by omega)
   have c0 := (hb.cell (p := ⟨b, o + q, none⟩) hbw).trans (HC.out q hlt)
   have hkb : 0 ≤ kq ∧ kq ≤ 4611686018427387904 := by omega
   obtain ⟨hkb0, hkb1⟩ := hkb
   have hne : ((k + (q : Int)) != kq) = false := by simp; omega
   have HB := tuck hb
   have HKQ := tuck hkq
   clear hb hkq
   go_wp2
   go_roundw
   case rel => exact ⟨q + 1, kq + 1, by omega, by go_num, rfl, by have := HKQ.out; omega, HB.out⟩
   case measure => simp [intOf]; omega
  ·have hge2 : ¬ ((q : Int) < (len : Int)) := by omega
   have e : q = len := by omega
   subst e
   have HB := tuck hb
   have HKQ := tuck hkq
   clear hb hkq
   go_wp2
   exact HF.out _ _ HKQ.out HB.out
set_option maxRecDepth 100000 in
theorem heldIntSS_any (L : List ((Int → Int) × Nat)) (B : Nat) (k : Int) (w : World) (v : Value) (hL : L.length ≤ 1048576) (hk0 : 0 ≤ k) (hk1 : k + tot L ≤ 4611686018427387904) (h : RowP B (markSS L k) v w) : Calls Try.prog 16 #[v, .int .i64 k] w (IntPost' w (k + tot L)) := by
 obtain ⟨a, cap, g, rfl, hc⟩ := h.get
 rw [markSS_length] at *
 have HC := tuck hc
 have HEI : Hid (∀ (j : Nat) (hj : j < L.length) (W : World) (u : Value), Ints W 0 (fun i => k + (tot (L.take j) : Int) + i) L[j].2 u → Calls Try.prog 42 #[u, .int .i64 (k + (tot (L.take j) : Int))] W (IntPost' W (k + (tot (L.take (j + 1)) : Int)))) := tuck fun j hj W u hu => by
  have h1 := tot_take_succ L j hj
  have h2 := tot_take_le L (j + 1)
  have := heldN_any L[j].2 (k + (tot (L.take j) : Int)) W u (by omega) (by omega) hu
  rwa [show k + (tot (L.take j) : Int) + (L[j].2 : Int) = k + (tot (L.take (j + 1)) : Int) by omega] at this
 clear hc h
 have HF : Hid (∀ W kq, kq = k + (tot L : Int) → Below w.heap.size w W → IntPost' w (k + tot L) (.returned (.int .i64 kq)) W) := tuck fun W kq e hb => ⟨by rw [e], hb⟩
 generalize IntPost' w (k + tot L) = post at *
 go_enter Try.func16, Try.ntmps16
 go_wp2
 go_loopw [5, 1] (fun i kk wr => ∃ (q : Nat) (kq : Int), q ≤ L.length ∧ i = .int .i64 q ∧ kk = .int .i64 kq ∧ kq = k + (tot (L.take q) : Int) ∧ Below w.heap.size w wr) (fun i _ _ => L.length - (intOf i).toNat)
 case atStart => exact ⟨0, k, Nat.zero_le _, rfl, rfl, by simp [tot], Below.refl _ _⟩
 case round =>
  obtain ⟨q, kq, hq, rfl, rfl, hkq, hb⟩ := hrel
  by_cases hlt : q < L.length
  ·have hlti : ((q : Int) < (L.length : Int)) := by omega
   have hqi : (0 : Int) ≤ (q : Int) := by omega
   obtain ⟨rfl, -, hg, ua, uc, k1, k2⟩ := HC.out q (by rw [markSS_length]; exact hlt)
   have hmg := markSS_get L k q hlt
   simp only [hmg] at k1 k2
   have c0 := (hb.cell (p := ⟨g, q, none⟩) hg).trans k1
   have HI := tuck (k2.below hb).ints
   have HB := tuck hb
   subst hkq
   obtain ⟨kn, hkn⟩ : ∃ kn, kn = k + (tot (L.take (q + 1)) : Int) := ⟨_, rfl⟩
   have hnn : ¬ (kn < 0) := by omega
   have HCL := HEI.out q hlt
   rw [← hkn] at HCL
   have HCLL := tuck HCL
   have HKN := tuck hkn
   clear hb k1 k2 hg hmg HCL hkn
   go_wp2_with fail
   refine (HCLL.out _ _ HI.out).mono ?_
   rintro e w2 ⟨rfl, hb2⟩
   have HB2 := tuck (bAfter HB.out hb2)
   clear hb2 HI HB c0
   go_wp2
   go_roundw
   case rel => exact ⟨q + 1, _, by omega, by go_num, rfl, HKN.out, HB2.out⟩
   case measure => simp [intOf]; omega
  ·have hge2 : ¬ ((q : Int) < (L.length : Int)) := by omega
   have e : q = L.length := by omega
   have HB := tuck hb
   have HKQ := tuck (show kq = k + (tot L : Int) by rw [hkq, e, List.take_length])
   clear hb hkq
   go_wp2
   exact HF.out _ _ HKQ.out HB.out
theorem But.trans {F : List Nat} {a b c : World} (h : But F a b) (k : But F b c) : But F a c :=
 ⟨k.os.trans h.os, k.tape.trans h.tape, k.output.trans h.output, Nat.le_trans h.size k.size, fun i hi hf => (k.block i (Nat.lt_of_lt_of_le hi h.size) hf).trans (h.block i hi hf)⟩
theorem But.more {F G : List Nat} {a b : World} (h : But F a b) (hs : ∀ i ∈ F, i ∈ G) : But G a b :=
 ⟨h.os, h.tape, h.output, h.size, fun i hi hf => h.block i hi fun e => hf (hs i e)⟩
set_option maxRecDepth 100000 in
theorem markIntSS_any (L : List ((Int → Int) × Nat)) (B : Nat) (k : Int) (w : World) (v : Value) (hL : L.length ≤ 1048576) (h0 : ∀ x ∈ L, x.2 ≤ 1048576) (hk0 : 0 ≤ k) (hk1 : k + tot L ≤ 4611686018427387904) (h : RowQ (fun _ => False) B L v w) : Calls Try.prog 15 #[v, .int .i64 k] w fun e w' => e = .returned (.int .i64 (k + tot L)) ∧ RowP B (markSS L k) v w' ∧ ∃ F, But F w w' ∧ ∀ b ∈ F, B ≤ b := by
 obtain ⟨a, cap, g, hv, hc⟩ := h.rowP.get
 obtain ⟨vs, bs, l1, l2, hrow, hoff, hnd, hbs, hin⟩ := h
 have hbl : ∀ b ∈ bs, b < w.heap.size := fun b hm => by
  obtain ⟨j, hj, e⟩ := List.mem_iff_getElem.1 hm
  obtain ⟨u, b', k1, k2, k3⟩ := hin j (by omega)
  rw [List.getElem?_eq_getElem hj, e] at k2
  cases k2
  exact k3.lt
 have hat : ∀ j (hj : j < L.length), ∃ u b, vs[j]? = some u ∧ bs[j]? = some b ∧ b ∈ bs ∧ b < w.heap.size ∧ (a = some ⟨g, 0, none⟩ ∧ g < w.heap.size ∧ w.cell? ⟨g, j, none⟩ = some u) ∧ IntsB w b L[j].1 L[j].2 u := fun j hj => by
  obtain ⟨u, b, k1, k2, k3⟩ := hin j hj
  obtain ⟨e, -, hg, ua, uc, m1, -⟩ := hc j hj
  have hm := List.mem_of_getElem? k2
  subst hv
  subst e
  have hcc := hrow.cells (g := g) rfl j _ k1
  have hadd : (⟨g, 0, none⟩ : Addr).add j = ⟨g, j, none⟩ := by unfold Addr.add; split <;> simp_all
  rw [hadd] at hcc
  exact ⟨u, b, k1, k2, hm, hbl b hm, ⟨rfl, hg, hcc⟩, k3.isB⟩
 have hgoff : ∀ j (hj : j < L.length), g ∉ bs := fun j hj => by
  obtain ⟨e, -, -⟩ := hc j hj
  subst hv
  subst e
  exact (hoff g rfl).2
 have HAT := tuck hat
 have HG := tuck hgoff
 have HF : Hid (∀ W kq, kq = k + (tot L : Int) → But bs w W → (∀ j (hj : j < L.length), ∀ u b, vs[j]? = some u → bs[j]? = some b → IntsB W b (fun i => k + (tot (L.take j) : Int) + i) L[j].2 u) → (fun (e : Ending) (w' : World) => e = .returned (.int .i64 (k + tot L)) ∧ RowP B (markSS L k) v w' ∧ ∃ F, But F w w' ∧ ∀ b ∈ F, B ≤ b) (.returned (.int .i64 kq)) W) := tuck fun W kq e hb hall => by
  refine ⟨by rw [e], ⟨vs, by rw [markSS_length]; exact l1, ?_, fun j hj => ?_⟩, bs, hb, fun b hm => (hbs b hm).1⟩
  ·rw [markSS_length]
   refine ⟨hrow.1, ?_⟩
   rcases hrow.2 with hn | ⟨g', cap, cur, e', hb', hgg, rest⟩
   ·exact Or.inl hn
   ·exact Or.inr ⟨g', cap, cur, e', hb', (hb.block g' (block_of_cells hgg).1 (hoff g' (by rw [e']; rfl)).2).trans hgg, rest⟩
  ·rw [markSS_length] at hj
   obtain ⟨u, b, k1, k2, hm, -⟩ := hat j hj
   have := hall j hj u b k1 k2
   rw [show (markSS L k)[j] = (fun i => k + (tot (L.take j) : Int) + i, L[j].2) from markSS_get L k j hj]
   exact ⟨u, k1, this.isX fun e => (hoff b e).2 hm⟩
 clear hc hbl hat hgoff hin hoff hbs hrow
 subst hv
 generalize (fun (e : Ending) (w' : World) => e = .returned (.int .i64 (k + tot L)) ∧ RowP B (markSS L k) (.slice a L.length cap) w' ∧ ∃ F, But F w w' ∧ ∀ b ∈ F, B ≤ b) = post at *
 have HEI : Hid (∀ (j : Nat) (hj : j < L.length) (W : World) (b : Nat) (u : Value), IntsB W b L[j].1 L[j].2 u → Calls Try.prog 41 #[u, .int .i64 (k + (tot (L.take j) : Int))] W fun e w' => e = .returned (.int .i64 (k + (tot (L.take (j + 1)) : Int))) ∧ But [b] W w' ∧ IntsB w' b (fun i => k + (tot (L.take j) : Int) + i) L[j].2 u) := tuck fun j hj W b u hu => by
  have h1 := tot_take_succ L j hj
  have h2 := tot_take_le L (j + 1)
  have := markN_any L[j].1 L[j].2 b (k + (tot (L.take j) : Int)) W u (h0 _ (List.getElem_mem hj)) (by omega) (by omega) hu
  rwa [show k + (tot (L.take j) : Int) + (L[j].2 : Int) = k + (tot (L.take (j + 1)) : Int) by omega] at this
 clear h0
 go_enter Try.func15, Try.ntmps15
 go_wp2
 go_loopw [5, 1] (fun i kk wr => ∃ (q : Nat) (kq : Int), q ≤ L.length ∧ i = .int .i64 q ∧ kk = .int .i64 kq ∧ kq = k + (tot (L.take q) : Int) ∧ But bs w wr ∧ (∀ j (hj : j < L.length), ∀ u b, vs[j]? = some u → bs[j]? = some b → if j < q then IntsB wr b (fun i => k + (tot (L.take j) : Int) + i) L[j].2 u else IntsB wr b L[j].1 L[j].2 u)) (fun i _ _ => L.length - (intOf i).toNat)
 case atStart => exact ⟨0, k, Nat.zero_le _, rfl, rfl, by simp [tot], But.refl _ _, fun j hj u b h1 h2 => by
  obtain ⟨u', b', k1, k2, -, -, -, k3⟩ := HAT.out j hj
  rw [h1] at k1
  rw [h2] at k2
  cases k1
  cases k2
  rw [if_neg (by omega)]
  exact k3⟩
 case round =>
  obtain ⟨q, kq, hq, rfl, rfl, hkq, hb, hall⟩ := hrel
  by_cases hlt : q < L.length
  ·have hlti : ((q : Int) < (L.length : Int)) := by omega
   have hqi : (0 : Int) ≤ (q : Int) := by omega
   obtain ⟨u, b, k1, k2, hm, hbw, ⟨rfl, hg, hcell⟩, k3⟩ := HAT.out q hlt
   obtain ⟨ua, uc, rfl⟩ := k3.form
   have c0 := (World.cell?_of_block (w := w) (a := ⟨g, q, none⟩) (hb.block g hg (HG.out q hlt))).trans hcell
   have hu := hall q hlt _ _ k1 k2
   rw [if_neg (by omega)] at hu
   have HU := tuck hu
   have HB := tuck hb
   have HALL := tuck hall
   subst hkq
   obtain ⟨kn, hkn⟩ : ∃ kn, kn = k + (tot (L.take (q + 1)) : Int) := ⟨_, rfl⟩
   have HCL := HEI.out q hlt
   rw [← hkn] at HCL
   have HCLL := tuck HCL
   have HKN := tuck hkn
   have HK1 := tuck k1
   have HK2 := tuck k2
   clear hb hcell hu hall HCL hkn k1 k2 k3 hg hm
   go_wp2_with fail
   refine (HCLL.out _ _ _ HU.out).mono ?_
   rintro e w2 ⟨rfl, hb2, hm2⟩
   have HB2 := tuck hb2
   have HM2 := tuck hm2
   clear hb2 hm2 c0
   go_wp2
   go_roundw
   case rel => exact ⟨q + 1, _, by omega, by go_num, rfl, HKN.out, HB.out.trans (HB2.out.more fun i hi => by rw [List.mem_singleton.1 hi]; exact List.mem_of_getElem? HK2.out), fun j hj u' b' m1 m2 => by
    by_cases hjq : j = q
    ·subst hjq
     rw [HK1.out] at m1
     rw [HK2.out] at m2
     cases m1
     cases m2
     rw [if_pos (by omega)]
     exact HM2.out
    ·have hbb : b' ≠ b := fun e => by
      subst e
      obtain ⟨hj1, -⟩ := List.getElem?_eq_some_iff.1 m2
      exact hjq ((List.getElem?_inj hj1 hnd).1 (m2.trans HK2.out.symm))
     have hold := HALL.out j hj u' b' m1 m2
     obtain ⟨u2, b2, n1, n2, -, hb2w, -⟩ := HAT.out j hj
     rw [m2] at n2
     cases n2
     have hk := HB2.out.block b' (Nat.lt_of_lt_of_le hb2w HB.out.size) (by simpa using hbb)
     by_cases hjl : j < q
     ·rw [if_pos hjl] at hold
      rw [if_pos (by omega)]
      exact hold.of_block hk
     ·rw [if_neg hjl] at hold
      rw [if_neg (by omega)]
      exact hold.of_block hk⟩
   case measure => simp [intOf]; omega
  ·have hge2 : ¬ ((q : Int) < (L.length : Int)) := by omega
   have e : q = L.length := by omega
   have HB := tuck hb
   have HKQ := tuck (show kq = k + (tot L : Int) by rw [hkq, e, List.take_length])
   have HALL := tuck hall
   clear hb hkq hall
   go_wp2
   exact HF.out _ _ HKQ.out HB.out fun j hj u b h1 h2 => by
    have := HALL.out j hj u b h1 h2
    rwa [if_pos (by omega)] at this
end Go.Proofs.Ytihlbbbajaepoaa
