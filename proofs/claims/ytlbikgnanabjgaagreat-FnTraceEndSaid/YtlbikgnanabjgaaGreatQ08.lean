/-
  Trav.
-/
import Derived.Test.YtlbikgnanabjgaaGreatQ07
import Derived.Deep.RegionHeld3
import Derived.ProofKit
import Derived.Test.YtlbikgnanabjgaaGreatProg
import Derived.WalkSpells
namespace Go.Proofs.YtlbikgnanabjgaaGreat
open Go.RowKit
structure Step (M : Nat → Prop) (w w' : World) (M' : Nat → Prop) : Prop where
 os : w'.os = w.os
 tape : w'.tape = w.tape
 output : w'.output = w.output
 size : w.heap.size ≤ w'.heap.size
 block : ∀ i, i < w.heap.size → ¬ M i → w'.heap[i]? = w.heap[i]?
 grow : ∀ i, i < w.heap.size → M' i → M i
 lt : ∀ i, M' i → i < w'.heap.size
theorem Step.refl {M : Nat → Prop} {w : World} (h : ∀ i, M i → i < w.heap.size) : Step M w w M := ⟨rfl, rfl, rfl, Nat.le_refl _, fun _ _ _ => rfl, fun _ _ h => h, h⟩
theorem Step.trans {M M1 M2 : Nat → Prop} {a b c : World} (h : Step M a b M1) (k : Step M1 b c M2) : Step M a c M2 :=
 ⟨k.os.trans h.os, k.tape.trans h.tape, k.output.trans h.output, Nat.le_trans h.size k.size,
  fun i hi hn => (k.block i (Nat.lt_of_lt_of_le hi h.size) (fun hm => hn (h.grow i hi hm))).trans (h.block i hi hn), fun i hi hm => h.grow i hi (k.grow i (Nat.lt_of_lt_of_le hi h.size) hm), k.lt⟩
theorem Step.of_below {M : Nat → Prop} {w w' : World} (hb : Below w.heap.size w w') (h : ∀ i, M i → i < w.heap.size) : Step M w w' M :=
 ⟨hb.os, hb.tape, hb.output, hb.size, fun i hi _ => hb.block i hi, fun _ _ h => h, fun i hi => Nat.lt_of_lt_of_le (h i hi) hb.size⟩
theorem Step.and {M M1 : Nat → Prop} {a b c : World} (h : Step M a b M1) (k : Below b.heap.size b c) : Step M a c M1 := h.trans (Step.of_below k h.lt)
theorem Step.below {M M' : Nat → Prop} {B : Nat} {u a b : World} (h : Step M a b M') (hu : Below B u a) (hB : B ≤ a.heap.size) (hM : ∀ i, M i → B ≤ i) : Below B u b :=
 ⟨h.os.trans hu.os, h.tape.trans hu.tape, h.output.trans hu.output, Nat.le_trans hu.size h.size, fun i hi => (h.block i (by omega) (fun hm => by have := hM i hm; omega)).trans (hu.block i hi)⟩
theorem Step.ge {M M' : Nat → Prop} {B : Nat} {a b : World} (h : Step M a b M') (hB : B ≤ a.heap.size) (hM : ∀ i, M i → B ≤ i) : ∀ i, M' i → B ≤ i := fun i hm => by
 by_cases hi : i < a.heap.size
 ·exact hM i (h.grow i hi hm)
 ·omega
theorem Step.cell {M M' : Nat → Prop} {a b : World} (h : Step M a b M') {p : Addr} (hp : p.block < a.heap.size) (hn : ¬ M p.block) : b.cell? p = a.cell? p := World.cell?_of_block (h.block p.block hp hn)
def UsePost {S : Type} (St : S → (Nat → Prop) → World → Prop) (M : Nat → Prop) (w : World) (r : Option S) (e : Ending) (w' : World) : Prop :=
 ∃ M', Step M w w' M' ∧ e = .returned (.bool r.isSome) ∧ ∀ s', r = some s' → St s' M' w'
theorem inScope_any (k : Int) (i : Nat) (w : World) : Calls Tryz.prog 101 #[.int .i64 k, .int .i64 i] w fun e w' => e = .returned (.bool (decide (under k i = 1))) ∧ w = w' := by
 go_enter Tryz.func101, Tryz.ntmps101
 go_wp2
 all_goals (go_ret; exact ⟨ret_bool (by unfold under; rw [Bool.eq_iff_iff]; simp_all; try omega), rfl⟩)
set_option maxRecDepth 100000 in
theorem operand_any (b d k : Int) (i : Nat) (w : World) (hb : 0 ≤ b) (hb1 : b ≤ 1000) (hd : 0 ≤ d) (hd1 : d ≤ 1000) : Calls Tryz.prog 100 #[.agg #[.int .i64 b, .int .i64 d], .int .i64 k, .int .i64 i] w fun e w' =>
  e = .returned (.agg #[.int .i64 (b + under k i), .int .i64 (d + 1)]) ∧ Below w.heap.size w w' := by
 have HS := tuck (inScope_any k i)
 have hu := under_01 k i
 by_cases hx : under k i = 1
 ·rw [show decide (under k i = 1) = true by simpa using hx] at HS
  rw [hx]
  clear hx hu
  go_enter Tryz.func100, Tryz.ntmps100
  go_wp2_with (go_at_call 101; refine (HS.out _).mono ?_; rintro e w' ⟨rfl, rfl⟩)
  refine bodyPost_ret (v := .agg #[.int .i64 (b + 1), .int .i64 (d + 1)]) (by simp [results, Tryz.results100, go_sem]) rfl ⟨rfl, ?_⟩
  exact below3 _ _ _ _
 ·rw [show decide (under k i = 1) = false by simpa using hx] at HS
  rw [show under k i = 0 by omega, Int.add_zero]
  clear hx hu
  go_enter Tryz.func100, Tryz.ntmps100
  go_wp2_with (go_at_call 101; refine (HS.out _).mono ?_; rintro e w' ⟨rfl, rfl⟩)
  refine bodyPost_ret (v := .agg #[.int .i64 b, .int .i64 (d + 1)]) (by simp [results, Tryz.results100, go_sem]) rfl ⟨rfl, ?_⟩
  exact below3 _ _ _ _
def freeRes (k n b : Int) : Value := if k = 1 ∧ b ≤ n then .tuple #[.int .i64 (n - b), .bool true] else .tuple #[.int .i64 0, .bool false]
set_option maxRecDepth 100000 in
theorem freeOf_any (b d k n : Int) (v : Value) (w : World) (hb : 0 ≤ b) (hb1 : b ≤ 1000) (hn : 0 ≤ n) (hn1 : n ≤ 1000) : Calls Tryz.prog 99 #[.agg #[.int .i64 b, .int .i64 d], .agg #[.int .i64 k, .int .i64 n, v]] w fun e w' =>
  e = .returned (freeRes k n b) ∧ Below w.heap.size w w' := by
 by_cases hk : k = 1
 ·by_cases hx : b ≤ n
  ·have e : freeRes k n b = .tuple #[.int .i64 (n - b), .bool true] := if_pos ⟨hk, hx⟩
   rw [e]
   have g1 : (k != 1) = false := by simpa using hk
   have g2 : decide (n < b) = false := by simpa using hx
   clear hk e
   go_enter Tryz.func99, Tryz.ntmps99
   go_wp2
   go_ret2
   exact ⟨rfl, below2 _ _ _⟩
  ·have e : freeRes k n b = .tuple #[.int .i64 0, .bool false] := if_neg (fun h => hx h.2)
   rw [e]
   have g1 : (k != 1) = false := by simpa using hk
   have g2 : decide (n < b) = true := by simpa using hx
   clear hk e
   go_enter Tryz.func99, Tryz.ntmps99
   go_wp2
   go_ret2
   exact ⟨rfl, below2 _ _ _⟩
 ·have e : freeRes k n b = .tuple #[.int .i64 0, .bool false] := if_neg (fun h => hk h.1)
  rw [e]
  have g1 : (k != 1) = true := by simpa using hk
  clear hk e
  go_enter Tryz.func99, Tryz.ntmps99
  go_wp2
  go_ret2
  exact ⟨rfl, below2 _ _ _⟩
theorem rootSpot_any (w : World) : Calls Tryz.prog 93 #[] w fun e w' => e = .returned (.agg #[.int .i64 0, .int .i64 1]) ∧ Below w.heap.size w w' := by
 go_enter Tryz.func93, Tryz.ntmps93
 go_wp2
 refine bodyPost_ret (v := .agg #[.int .i64 0, .int .i64 1]) (by simp [results, Tryz.results93, go_sem]) rfl ⟨rfl, ?_⟩
 exact below1 _ _
theorem indexValid_any (n : Int) (w : World) : Calls Tryz.prog 87 #[.int .i64 n] w fun e w' => e = .returned (.bool (decide (0 ≤ n ∧ n ≤ 20))) ∧ w = w' := by
 by_cases h0 : 0 ≤ n
 ·have g0 : decide (0 ≤ n) = true := by simpa using h0
  by_cases h1 : n ≤ 20
  ·have g1 : decide (n ≤ 20) = true := by simpa using h1
   rw [show decide (0 ≤ n ∧ n ≤ 20) = true by simpa using ⟨h0, h1⟩]
   go_enter Tryz.func87, Tryz.ntmps87
   go_wp2
   go_ret
   exact ⟨rfl, rfl⟩
  ·have g1 : decide (n ≤ 20) = false := by simpa using h1
   rw [show decide (0 ≤ n ∧ n ≤ 20) = false by simp; omega]
   go_enter Tryz.func87, Tryz.ntmps87
   go_wp2
   go_ret
   exact ⟨rfl, rfl⟩
 ·have g0 : decide (0 ≤ n) = false := by simpa using h0
  rw [show decide (0 ≤ n ∧ n ≤ 20) = false by simp; omega]
  go_enter Tryz.func87, Tryz.ntmps87
  go_wp2
  go_ret
  exact ⟨rfl, rfl⟩
def UseOk (D L : Int) {S : Type} (u0 w0 : World) (M0 : Nat → Prop) (St : S → (Nat → Prop) → World → Prop) (f : FuncId) (cs : Array Value) (step : S → Tm → Int → Int → Option S) : Prop :=
 ∀ (w : World) (s : S) (M : Nat → Prop) (x : Tm) (v : Value) (b d : Int), Step M0 w0 w M → St s M w → x.rootOk → x.most b ≤ L → SlIn u0 0 x.kids v → 0 ≤ b → b ≤ D → 0 ≤ d → d ≤ D →
  Calls Tryz.prog f (#[.agg #[.int .i64 x.kind, .int .i64 x.num, v], .agg #[.int .i64 b, .int .i64 d]] ++ cs) w (UsePost St M w (step s x b d))
theorem mem_hgts {l : List Tm} {i : Nat} (h : i < l.length) : l[i].hgt ≤ hgts l := (hgts_le l (hgts l)).1 (Nat.le_refl _) _ (List.getElem_mem h)
theorem eb_below {w w' : World} {g0 g1 g2 : Nat} {k b d k1 n1 : Int} {v : Value}
  (h : (g0 < w.heap.size ∧ g1 < w.heap.size ∧ g2 < w.heap.size) ∧ w.cell? ⟨g0, 0, none⟩ = some (.int .i64 k) ∧ w.cell? ⟨g1, 0, none⟩ = some (.int .i64 b) ∧ w.cell? ⟨g1, 1, none⟩ = some (.int .i64 d) ∧
   w.cell? ⟨g2, 0, none⟩ = some (.int .i64 k1) ∧ w.cell? ⟨g2, 1, none⟩ = some (.int .i64 n1) ∧ w.cell? ⟨g2, 2, none⟩ = some v) (hb : Below w.heap.size w w') :
  (g0 < w'.heap.size ∧ g1 < w'.heap.size ∧ g2 < w'.heap.size) ∧ w'.cell? ⟨g0, 0, none⟩ = some (.int .i64 k) ∧ w'.cell? ⟨g1, 0, none⟩ = some (.int .i64 b) ∧ w'.cell? ⟨g1, 1, none⟩ = some (.int .i64 d) ∧
   w'.cell? ⟨g2, 0, none⟩ = some (.int .i64 k1) ∧ w'.cell? ⟨g2, 1, none⟩ = some (.int .i64 n1) ∧ w'.cell? ⟨g2, 2, none⟩ = some v := by
 obtain ⟨⟨z0, z1, z2⟩, h0, h1, h2, h3, h4, h5⟩ := h
 have := hb.size
 exact ⟨⟨by omega, by omega, by omega⟩, (hb.cell (p := ⟨g0, 0, none⟩) z0).trans h0, (hb.cell (p := ⟨g1, 0, none⟩) z1).trans h1, (hb.cell (p := ⟨g1, 1, none⟩) z1).trans h2, (hb.cell (p := ⟨g2, 0, none⟩) z2).trans h3, (hb.cell (p := ⟨g2, 1, none⟩) z2).trans h4, (hb.cell (p := ⟨g2, 2, none⟩) z2).trans h5⟩
theorem eb_step {w w' : World} {M M' : Nat → Prop} {g0 g1 g2 : Nat} {k b d k1 n1 : Int} {v : Value}
  (h : (g0 < w.heap.size ∧ g1 < w.heap.size ∧ g2 < w.heap.size) ∧ w.cell? ⟨g0, 0, none⟩ = some (.int .i64 k) ∧ w.cell? ⟨g1, 0, none⟩ = some (.int .i64 b) ∧ w.cell? ⟨g1, 1, none⟩ = some (.int .i64 d) ∧
   w.cell? ⟨g2, 0, none⟩ = some (.int .i64 k1) ∧ w.cell? ⟨g2, 1, none⟩ = some (.int .i64 n1) ∧ w.cell? ⟨g2, 2, none⟩ = some v) (hb : Step M w w' M') (n : ¬ M g0 ∧ ¬ M g1 ∧ ¬ M g2) :
  (g0 < w'.heap.size ∧ g1 < w'.heap.size ∧ g2 < w'.heap.size) ∧ w'.cell? ⟨g0, 0, none⟩ = some (.int .i64 k) ∧ w'.cell? ⟨g1, 0, none⟩ = some (.int .i64 b) ∧ w'.cell? ⟨g1, 1, none⟩ = some (.int .i64 d) ∧
   w'.cell? ⟨g2, 0, none⟩ = some (.int .i64 k1) ∧ w'.cell? ⟨g2, 1, none⟩ = some (.int .i64 n1) ∧ w'.cell? ⟨g2, 2, none⟩ = some v := by
 obtain ⟨⟨z0, z1, z2⟩, h0, h1, h2, h3, h4, h5⟩ := h
 have := hb.size
 exact ⟨⟨by omega, by omega, by omega⟩, (hb.cell (p := ⟨g0, 0, none⟩) z0 n.1).trans h0, (hb.cell (p := ⟨g1, 0, none⟩) z1 n.2.1).trans h1, (hb.cell (p := ⟨g1, 1, none⟩) z1 n.2.1).trans h2, (hb.cell (p := ⟨g2, 0, none⟩) z2 n.2.2).trans h3, (hb.cell (p := ⟨g2, 1, none⟩) z2 n.2.2).trans h4, (hb.cell (p := ⟨g2, 2, none⟩) z2 n.2.2).trans h5⟩
set_option maxRecDepth 100000 in
theorem each_any {D L : Int} (hD : D ≤ 900) {S : Type} {u0 w0 : World} {M0 : Nat → Prop} {St : S → (Nat → Prop) → World → Prop} {f : FuncId} {cs : Array Value} {step : S → Tm → Int → Int → Option S}
  (hSt : ∀ s M w w', St s M w → Below w.heap.size w w' → St s M w') (hu : Below u0.heap.size u0 w0) (hM : ∀ i, M0 i → u0.heap.size ≤ i)
  (hcf : ∀ (args : Array Value) (w : World), (callFunc f args).run Tryz.prog w = .ok (.enter f args) w) (hU : UseOk D L u0 w0 M0 St f cs step) :
  ∀ (l : List Tm) (k n b d : Int) (w : World) (s : S) (M : Nat → Prop) (v : Value), Step M0 w0 w M → St s M w → (Tm.mk k n l).allOk → (Tm.mk k n l).most b ≤ L → SlIn u0 0 l v → 0 ≤ b → b + hgts l ≤ D → 0 ≤ d → d + hgts l ≤ D →
   Calls Tryz.prog 97 #[.agg #[.int .i64 k, .int .i64 n, v], .agg #[.int .i64 b, .int .i64 d], .func (.func f) #[] cs] w (UsePost St M w ((Tm.mk k n l).trav step b d s)) := by
 intro l
 induction l using Tm.ind with
 | h l ih =>
 intro k n b d w s M v hstep hst hok hmo hin hb hb1 hd hd1
 obtain ⟨a, cap, bb, o, rfl, hl, hp, hc⟩ := hin.open
 have HIN := tuck hin
 clear hin
 have HI := tuck ih
 have HP := tuck hp
 have HC := tuck hc
 have HOK := tuck hok
 have HSTEP := tuck hstep
 have HST := tuck hst
 have HU := tuck hU
 have HSt := tuck hSt
 clear ih hp hc hok hstep hst hU hSt
 unfold maxLen at hl
 rw [Tm.allOk] at HOK
 have b0 : Below w.heap.size w ((w.alloc (.cells #[.int .i64 k, .int .i64 n, .slice a l.length cap] 25)).alloc (.cells #[.int .i64 b, .int .i64 d] 163)) := below2 _ _ _
 have hcall := HU.out _ s M (.mk k n l) (.slice a l.length cap) b d (HSTEP.out.and b0) (HSt.out _ _ _ _ HST.out b0) HOK.out.1 hmo HIN.out hb (by omega) hd (by omega)
 have HCALL := tuck hcall
 have HN : Hid (∀ M' w', Step M w w' M' → (Tm.mk k n l).trav step b d s = none → UsePost St M w ((Tm.mk k n l).trav step b d s) (.returned (.bool false)) w') := fun M' w' h1 h2 => ⟨M', h1, by rw [h2]; rfl, fun s' h => by rw [h2] at h; cases h⟩
 have HY : Hid (∀ M' w' s', Step M w w' M' → (Tm.mk k n l).trav step b d s = some s' → St s' M' w' → UsePost St M w ((Tm.mk k n l).trav step b d s) (.returned (.bool true)) w') := fun M' w' s' h1 h2 h3 => ⟨M', h1, by rw [h2]; rfl, fun s'' h => by rw [h2] at h; cases h; exact h3⟩
 have HR : Hid ((Tm.mk k n l).trav step b d s = (step s (.mk k n l) b d).bind fun s' => travL step k l 0 b d s') := by show _ = _; rw [Tm.trav]
 generalize UsePost St M w ((Tm.mk k n l).trav step b d s) = post at *
 generalize (Tm.mk k n l).trav step b d s = res at *
 have HMO : Hid (∀ (j : Nat) (h : j < l.length), l[j].most (b + under k j) ≤ L) := fun j h => by
  rw [Tm.most] at hmo
  have := mostL_le (l := l) (i := 0) (show mostL k l 0 b ≤ L by omega) j h
  rwa [Nat.zero_add] at this
 clear hcall b0 HU hmo
 go_enter Tryz.func97, Tryz.ntmps97
 go_wp2_with fail
 refine HCALL.out.mono ?_
 rintro e w1 ⟨M1, hs1, rfl, hst1⟩
 have hb0 : w.heap.size < w1.heap.size := by have := hs1.size; simp at this; omega
 have hb1' : w.heap.size + 1 < w1.heap.size := by have := hs1.size; simp at this; omega
 have n0 : ¬ M w.heap.size := fun h => Nat.lt_irrefl _ (HSTEP.out.lt _ h)
 have n1 : ¬ M (w.heap.size + 1) := fun h => by have := HSTEP.out.lt _ h; omega
 have c0 : w1.cell? ⟨w.heap.size, 0, none⟩ = some (.int .i64 k) := (hs1.cell (p := ⟨w.heap.size, 0, none⟩) (by simp; omega) n0).trans (by go_simp)
 have c2 : w1.cell? ⟨w.heap.size, 2, none⟩ = some (.slice a l.length cap) := (hs1.cell (p := ⟨w.heap.size, 2, none⟩) (by simp; omega) n0).trans (by go_simp)
 have d0 : w1.cell? ⟨w.heap.size + 1, 0, none⟩ = some (.int .i64 b) := (hs1.cell (p := ⟨w.heap.size + 1, 0, none⟩) (by simp) n1).trans (by go_simp)
 have d1 : w1.cell? ⟨w.heap.size + 1, 1, none⟩ = some (.int .i64 d) := (hs1.cell (p := ⟨w.heap.size + 1, 1, none⟩) (by simp) n1).trans (by go_simp)
 have hsa : Step M w w1 M1 := (Step.of_below (below2 w _ _) HSTEP.out.lt).trans hs1
 have m0 : ¬ M1 w.heap.size := fun h => n0 (hs1.grow _ (by simp; omega) h)
 have m1 : ¬ M1 (w.heap.size + 1) := fun h => n1 (hs1.grow _ (by simp) h)
 have HM0 := tuck m0
 have HM1 := tuck m1
 have HSA := tuck hsa
 have HST1 := tuck hst1
 clear hs1 hst1 HCALL HST n0 n1 hsa m0 m1
 cases hr : step s (.mk k n l) b d with
 | none =>
  rw [hr] at HR
  simp only [Option.isSome_none]
  clear hr HST1
  go_wp2_with fail
  exact HN.out M1 _ HSA.out HR.out
 | some s1 =>
  rw [hr] at HR HST1
  simp only [Option.isSome_some]
  have HS1 := tuck (HST1.out s1 rfl)
  replace HR : Hid (res = travL step k l 0 b d s1) := HR.out
  clear hr HST1
  go_wp2_with fail
  have C0 := tuck c0
  have D0 := tuck d0
  have D1 := tuck d1
  have Z0 := tuck hb0
  have Z1 := tuck hb1'
  clear c0 c2 d0 d1 hb0 hb1'
  go_loopw [17] (fun i wr => ∃ (q : Nat) (sq : S) (Mq : Nat → Prop), q ≤ l.length ∧ i = .int .i64 q ∧ Step M1 w1 wr Mq ∧ St sq Mq wr ∧ res = travL step k (l.drop q) q b d sq) (fun i _ => l.length - (intOf i).toNat)
  case atStart => exact ⟨0, s1, M1, Nat.zero_le _, rfl, Step.refl HSA.out.lt, HS1.out, HR.out⟩
  case round =>
   obtain ⟨q, sq, Mq, hq, rfl, hsq, hstq, hres⟩ := hrel
   have HSQ := tuck hsq
   have HSTQ := tuck hstq
   have HRES := tuck hres
   clear hsq hstq hres
   by_cases hlt : q < l.length
   ·have hlti : ((q : Int) < (l.length : Int)) := by omega
    obtain ⟨rfl, _, hbw⟩ := HP.out (by intro e; rw [e] at hlt; simp at hlt)
    obtain ⟨sv, c0, c1, c2, hs⟩ := HC.out q hlt
    obtain ⟨sa, sc, rfl⟩ := hs.form
    have hbel := (((HSTEP.out.trans HSA.out).trans HSQ.out).below hu hu.size hM)
    replace c0 := (hbel.cell (p := ⟨bb, o + q * 3, none⟩) hbw).trans c0
    replace c1 := (hbel.cell (p := ⟨bb, o + q * 3 + 1, none⟩) hbw).trans c1
    replace c2 := (hbel.cell (p := ⟨bb, o + q * 3 + 2, none⟩) hbw).trans c2
    have hz1 := HSQ.out.size
    have hh := mem_hgts hlt
    rw [Tm.hgt_eq] at hh
    have hund := under_01 k q
    have HT := tuck (travL_drop (f := step) (k := k) (l := l) (b := b) (d := d) (s := sq) hlt)
    have hokq : l[q].allOk := (allsOk_iff l).1 HOK.out.2 _ (List.getElem_mem hlt)
    have HI' := tuck (HI.out q hlt l[q].kind l[q].num)
    rw [Tm.eta] at HI'
    have HOKQ := tuck hokq
    have HMQ := tuck (HMO.out q hlt)
    have HS := tuck hs
    clear hs hokq hbel HI HMO
    generalize l[q] = x at *
    have hst2 : Step M0 w0 wr Mq := (HSTEP.out.trans HSA.out).trans HSQ.out
    have n0 : ¬ Mq w.heap.size := fun h => HM0.out (HSQ.out.grow _ Z0.out h)
    have n1 : ¬ Mq (w.heap.size + 1) := fun h => HM1.out (HSQ.out.grow _ Z1.out h)
    have n2 : ¬ Mq wr.heap.size := fun h => Nat.lt_irrefl _ (HSQ.out.lt _ h)
    have HNM : Hid (¬ Mq w.heap.size ∧ ¬ Mq (w.heap.size + 1) ∧ ¬ Mq wr.heap.size) := tuck ⟨n0, n1, n2⟩
    have hbox : (w.heap.size < (wr.alloc (.cells #[.int .i64 x.kind, .int .i64 x.num, .slice sa x.kids.length sc] 25)).heap.size ∧ w.heap.size + 1 < (wr.alloc (.cells #[.int .i64 x.kind, .int .i64 x.num, .slice sa x.kids.length sc] 25)).heap.size ∧ wr.heap.size < (wr.alloc (.cells #[.int .i64 x.kind, .int .i64 x.num, .slice sa x.kids.length sc] 25)).heap.size) ∧
      (wr.alloc (.cells #[.int .i64 x.kind, .int .i64 x.num, .slice sa x.kids.length sc] 25)).cell? ⟨w.heap.size, 0, none⟩ = some (.int .i64 k) ∧ (wr.alloc (.cells #[.int .i64 x.kind, .int .i64 x.num, .slice sa x.kids.length sc] 25)).cell? ⟨w.heap.size + 1, 0, none⟩ = some (.int .i64 b) ∧ (wr.alloc (.cells #[.int .i64 x.kind, .int .i64 x.num, .slice sa x.kids.length sc] 25)).cell? ⟨w.heap.size + 1, 1, none⟩ = some (.int .i64 d) ∧
      (wr.alloc (.cells #[.int .i64 x.kind, .int .i64 x.num, .slice sa x.kids.length sc] 25)).cell? ⟨wr.heap.size, 0, none⟩ = some (.int .i64 x.kind) ∧ (wr.alloc (.cells #[.int .i64 x.kind, .int .i64 x.num, .slice sa x.kids.length sc] 25)).cell? ⟨wr.heap.size, 1, none⟩ = some (.int .i64 x.num) ∧ (wr.alloc (.cells #[.int .i64 x.kind, .int .i64 x.num, .slice sa x.kids.length sc] 25)).cell? ⟨wr.heap.size, 2, none⟩ = some (.slice sa x.kids.length sc) := by
     have z0 := Z0.out
     have z1 := Z1.out
     refine ⟨⟨by simp; omega, by simp; omega, by simp⟩, ?_, ?_, ?_, by go_simp, by go_simp, by go_simp⟩
     ·exact ((below1 wr _).cell (p := ⟨w.heap.size, 0, none⟩) (Nat.lt_of_lt_of_le Z0.out hz1)).trans ((HSQ.out.cell (p := ⟨w.heap.size, 0, none⟩) Z0.out HM0.out).trans C0.out)
     ·exact ((below1 wr _).cell (p := ⟨w.heap.size + 1, 0, none⟩) (Nat.lt_of_lt_of_le Z1.out hz1)).trans ((HSQ.out.cell (p := ⟨w.heap.size + 1, 0, none⟩) Z1.out HM1.out).trans D0.out)
     ·exact ((below1 wr _).cell (p := ⟨w.heap.size + 1, 1, none⟩) (Nat.lt_of_lt_of_le Z1.out hz1)).trans ((HSQ.out.cell (p := ⟨w.heap.size + 1, 1, none⟩) Z1.out HM1.out).trans D1.out)
    have HBOX := tuck hbox
    have HST2 := tuck hst2
    have hstw : Step Mq wr (wr.alloc (.cells #[.int .i64 x.kind, .int .i64 x.num, .slice sa x.kids.length sc] 25)) Mq := Step.of_below (below1 _ _) HSQ.out.lt
    have hbw2 : Below wr.heap.size wr (wr.alloc (.cells #[.int .i64 x.kind, .int .i64 x.num, .slice sa x.kids.length sc] 25)) := below1 _ _
    have HSTW := tuck hstw
    have HSQW := tuck (HSt.out _ _ _ _ HSTQ.out hbw2)
    clear hbox hst2 n0 n1 n2 hstw hbw2
    go_wp2_with fail
    clear c0 c1 c2 hz1
    obtain ⟨⟨z0, z1, z2⟩, b0, b1, b2, b3, b4, b5⟩ := HBOX.out
    generalize (wr.alloc (.cells #[.int .i64 x.kind, .int .i64 x.num, .slice sa x.kids.length sc] 25)) = W2 at *
    generalize wr.heap.size = g2 at *
    go_region_held3 (fun w' => (w.heap.size < w'.heap.size ∧ w.heap.size + 1 < w'.heap.size ∧ g2 < w'.heap.size) ∧ w'.cell? ⟨w.heap.size, 0, none⟩ = some (.int .i64 k) ∧ w'.cell? ⟨w.heap.size + 1, 0, none⟩ = some (.int .i64 b) ∧ w'.cell? ⟨w.heap.size + 1, 1, none⟩ = some (.int .i64 d) ∧ w'.cell? ⟨g2, 0, none⟩ = some (.int .i64 x.kind) ∧ w'.cell? ⟨g2, 1, none⟩ = some (.int .i64 x.num) ∧ w'.cell? ⟨g2, 2, none⟩ = some (.slice sa x.kids.length sc)) (first | exact HBOX.out | exact eb_step (by assumption) hs3 HNM.out | exact eb_below (by assumption) hb2) (first | (go_at_call 100; refine (operand_any b d k q _ (by omega) (by omega) (by omega) (by omega)).mono ?_; rintro e w2 ⟨rfl, hb2⟩) | (go_at_call 97; refine (HI'.out _ _ _ sq Mq _ (((HST2.out.trans HSTW.out).and (Below.refl _ _).drew).and hb2) (HSt.out _ _ _ _ (HSt.out _ _ _ _ HSQW.out (Below.refl _ _).drew) hb2) HOKQ.out HMQ.out HS.out (by omega) (by omega) (by omega) (by omega)).mono ?_; rintro e w3 ⟨M3, hs3, rfl, hst3⟩))
    have HST3 := tuck hst3
    have HS3 := tuck (((HSTW.out.and (Below.refl _ _).drew).and hb2).trans hs3)
    clear hst3 hs3 hb2
    cases h3 : Tm.trav step x (b + under k q) (d + 1) sq with
    | none =>
     simp only [Option.isSome_none]
     have H3 := tuck h3
     clear h3
     go_wp2_with fail
     exact HN.out _ _ ((HSA.out.trans HSQ.out).trans HS3.out) (by rw [HRES.out, HT.out, H3.out, Option.bind_none])
    | some s3 =>
     simp only [Option.isSome_some]
     have H3 := tuck h3
     clear h3
     go_wp2_with fail
     go_roundw
     case rel => exact ⟨q + 1, s3, _, by omega, by go_num, HSQ.out.trans HS3.out, HST3.out s3 H3.out, by rw [HRES.out, HT.out, H3.out, Option.bind_some]⟩
     case measure => simp [intOf]; omega
   ·have hge2 : ¬ ((q : Int) < (l.length : Int)) := by omega
    go_wp2_with fail
    exact HY.out Mq _ sq (HSA.out.trans HSQ.out) (HRES.out.trans (travL_end step (by omega))) HSTQ.out
end Go.Proofs.YtlbikgnanabjgaaGreat
