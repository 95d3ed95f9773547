/-
  NormI, NormJ, NormK.
-/
import Derived.Test.YtpddjebdncaceaaGreatQ24
import Derived.Test.YtpddjebdncaceaaGreatQ33
import Derived.Test.YtpddjebdncaceaaGreatQ35
import Derived.Deep.DeepCutAuto
namespace Go.Proofs.YtpddjebdncaceaaGreat
open Go.RowKit
def redCells (rl mo : Bool) (fuel steps : Nat) (k n : Int) (s : Value) (code : Int) (found : Bool) (xk xn : Int) (xs : Value) : Array Value :=
 #[.bool rl, .bool mo, I6 fuel, I6 steps, I6 k, I6 n, s, I6 code, .bool found, I6 xk, I6 xn, xs, .slice none 0 0]
def RedAt (g : Nat) (rl mo : Bool) (fuel steps : Nat) (t : Tm) (code : Int) (M : Nat → Prop) (w : World) : Prop :=
 ∃ (s : Value) (found : Bool) (xk xn : Int) (xs : Value) (qs : List (Tm × Value × Nat)), StkAt g 12 130 (redCells rl mo fuel steps t.kind t.num s code found xk xn xs) qs M w ∧ SlX w M t.kids s ∧
  match t.find rl mo with
  | none => found = false
  | some (p, x) => found = true ∧ xk = x.kind ∧ xn = x.num ∧ SlX w M x.kids xs ∧ PassX w M p qs
theorem StkAt.setOther {g o j : Nat} {T : TypeId} {cs : Array Value} {ps : List (Tm × Value × Nat)} {M : Nat → Prop} {w : World} (h : StkAt g o T cs ps M w) (hj : j ≠ o) (u : Value) : StkAt g o T (cs.setIfInBounds j u) ps M (w.setCell ⟨g, j, none⟩ u) := by
 obtain ⟨h1, v, h2, ho, h3, rfl⟩ := h
 refine ⟨h1, v, ?_, by simpa using ho, ownsRow_setCell_below h3 (a := ⟨g, j, none⟩) (Nat.lt_succ_self g) _, rfl⟩
 have := block_set h2 j u
 rwa [Array.setIfInBounds_comm _ _ (fun e => hj e.symm)] at this
theorem StkAt.reset {g o : Nat} {T : TypeId} {cs : Array Value} {ps : List (Tm × Value × Nat)} {M : Nat → Prop} {w : World} (h : StkAt g o T cs ps M w) : ∃ (sa : Option Addr) (cap : Nat), w.cell? ⟨g, o, none⟩ = some (.slice sa ps.length cap) ∧ StkAt g o T cs [] M (w.setCell ⟨g, o, none⟩ (.slice sa 0 cap)) := by
 obtain ⟨h1, v, h2, ho, h3, rfl⟩ := h
 obtain ⟨va, vc, rfl⟩ := own_form h3
 refine ⟨va, vc, (stk_cells h2 ho).2.1, Nat.zero_le _, .slice va 0 vc, stk_set h2 _, ho, ?_, ?_⟩
 ·have h4 : w.ownsRow (g + 1) 169 4 (.slice va 0 vc) 0 (stkCells []) := by
   rcases h3.2 with ⟨h', _⟩ | ⟨gb, cap', cur, h', hb, hg, hnc, hcm, hcs, _⟩
   ·simp only [Value.slice.injEq] at h'
    obtain ⟨rfl, -, rfl⟩ := h'
    exact World.ownsRow_nil _ _ _ _
   ·simp only [Value.slice.injEq] at h'
    obtain ⟨rfl, -, rfl⟩ := h'
    exact ⟨rfl, .inr ⟨gb, vc, cur, rfl, hb, hg, Nat.zero_le _, hcm, hcs, by simp [stkCells]⟩⟩
  exact ownsRow_setCell_below h4 (a := ⟨g, o, none⟩) (Nat.lt_succ_self g) _
 ·funext i
  rcases h3.2 with ⟨h', _⟩ | ⟨gb, cap', cur, h', _⟩
  ·simp only [Value.slice.injEq] at h'
   obtain ⟨rfl, -⟩ := h'
   simp [Value.ownBlock]
  ·simp only [Value.slice.injEq] at h'
   obtain ⟨rfl, -⟩ := h'
   simp [Value.ownBlock]
end Go.Proofs.YtpddjebdncaceaaGreat
namespace Go.Proofs.YtpddjebdncaceaaGreat
open Go.RowKit
def SeekPost (g : Nat) (rl mo : Bool) (fuel steps : Nat) (t : Tm) (code : Int) (M : Nat → Prop) (w : World) (e : Ending) (w' : World) : Prop := e = .returned (.tuple #[]) ∧ ∃ M', Step M w w' M' ∧ RedAt g rl mo fuel steps t code M' w'
theorem red_cells {g : Nat} {rl mo : Bool} {fuel steps : Nat} {k n : Int} {s : Value} {code : Int} {found : Bool} {xk xn : Int} {xs : Value} {qs : List (Tm × Value × Nat)} {M : Nat → Prop} {w : World} (h : StkAt g 12 130 (redCells rl mo fuel steps k n s code found xk xn xs) qs M w) :
  g < w.heap.size ∧ w.cell? ⟨g, 0, none⟩ = some (.bool rl) ∧ w.cell? ⟨g, 1, none⟩ = some (.bool mo) ∧ w.cell? ⟨g, 2, none⟩ = some (I6 fuel) ∧ w.cell? ⟨g, 3, none⟩ = some (I6 steps) ∧ w.cell? ⟨g, 4, none⟩ = some (I6 k) ∧ w.cell? ⟨g, 5, none⟩ = some (I6 n) ∧ w.cell? ⟨g, 6, none⟩ = some s ∧ w.cell? ⟨g, 7, none⟩ = some (I6 code) ∧
  w.cell? ⟨g, 8, none⟩ = some (.bool found) ∧ w.cell? ⟨g, 9, none⟩ = some (I6 xk) ∧ w.cell? ⟨g, 10, none⟩ = some (I6 xn) ∧ w.cell? ⟨g, 11, none⟩ = some xs ∧ ∀ i, w.frozen? ⟨g, i, none⟩ = false := by
 obtain ⟨h1, v, h2, ho, h3, h4⟩ := h
 obtain ⟨z, c, f⟩ := block_of_cells h2
 exact ⟨z, c 0, c 1, c 2, c 3, c 4, c 5, c 6, c 7, c 8, c 9, c 10, c 11, f⟩
theorem Step.setOwn {M M' : Nat → Prop} {a b : World} (h : Step M a b M') {p : Addr} (hp : M' p.block) (u : Value) : Step M a (b.setCell p u) M' :=
 ⟨h.os, h.tape, h.output, by have := h.size; simpa [World.setCell] using this, fun i hi hn => (Below.heap_setCell b p u i (fun e => hn (h.grow i hi (e ▸ hp)))).trans (h.block i hi hn), h.grow, fun i hi => by simpa [World.setCell] using h.lt i hi⟩
theorem FindPost.no {u : World} {g so : Nat} {sT : TypeId} {scs : Array Value} {ps : List (Tm × Value × Nat)} {M : Nat → Prop} {w w' : World} {t : Tm} {s : Value} {e : Ending} (h : FindPost u g so sT scs ps M w t s none e w') :
  ∃ M', Step M w w' M' ∧ e = .returned (.tuple #[.agg #[I6 t.kind, I6 t.num, s], .bool false]) ∧ StkAt g so sT scs ps M' w' := h
theorem FindPost.yes {u : World} {g so : Nat} {sT : TypeId} {scs : Array Value} {ps : List (Tm × Value × Nat)} {M : Nat → Prop} {w w' : World} {t : Tm} {s : Value} {p : List (Tm × Nat)} {x : Tm} {e : Ending} (h : FindPost u g so sT scs ps M w t s (some (p, x)) e w') :
  ∃ M', Step M w w' M' ∧ ∃ sx qs, e = .returned (.tuple #[.agg #[I6 x.kind, I6 x.num, sx], .bool true]) ∧ SlIn u 0 x.kids sx ∧ StkAt g so sT scs (ps ++ qs) M' w' ∧ Passed u p qs := h
theorem stk_found {g : Nat} {rl mo : Bool} {fuel steps : Nat} {k n : Int} {s : Value} {code : Int} {found : Bool} {xk xn : Int} {xs : Value} {qs : List (Tm × Value × Nat)} {M : Nat → Prop} {w : World} (h : StkAt g 12 130 (redCells rl mo fuel steps k n s code found xk xn xs) qs M w) (xk' xn' : Int) (xs' : Value) (f' : Bool) :
  StkAt g 12 130 (redCells rl mo fuel steps k n s code f' xk' xn' xs') qs M ((((w.setCell ⟨g, 9, none⟩ (I6 xk')).setCell ⟨g, 10, none⟩ (I6 xn')).setCell ⟨g, 11, none⟩ xs').setCell ⟨g, 8, none⟩ (.bool f')) := by
 have := (((h.setOther (j := 9) (by decide) (I6 xk')).setOther (j := 10) (by decide) (I6 xn')).setOther (j := 11) (by decide) xs').setOther (j := 8) (by decide) (.bool f')
 exact this
set_option maxRecDepth 100000 in
set_option maxHeartbeats 4000000 in
theorem seek_any (g : Nat) (rl mo : Bool) (fuel steps : Nat) (t : Tm) (ht : t.Valid) (code : Int) (found : Bool) (xk xn : Int) (xs s : Value) (qs : List (Tm × Value × Nat)) (M : Nat → Prop) (w : World)
  (hst : StkAt g 12 130 (redCells rl mo fuel steps t.kind t.num s code found xk xn xs) qs M w) (hs : SlX w M t.kids s) : Calls Tryz.prog 122 #[.pointer (some ⟨g, 0, none⟩)] w (SeekPost g rl mo fuel steps t code M w) := by
 obtain ⟨sa, cap, hc12, hst2⟩ := hst.reset
 obtain ⟨z, c0, c1, c2, c3, c4, c5, c6, c7, c8, c9, c10, c11, hf⟩ := red_cells hst
 have f12 := hf 12
 have hs2 : SlX (w.setCell ⟨g, 12, none⟩ (.slice sa 0 cap)) M t.kids s := hs.set (hst.own) _
 obtain ⟨a, c, rfl⟩ := hs.form
 have hm : M g := hst.own
 have hmlt := fun i hi => (hst.lt i hi).2
 have HS0 : Hid (Step M w (w.setCell ⟨g, 12, none⟩ (.slice sa 0 cap)) M) := tuck ((Step.refl hmlt).setOwn (p := ⟨g, 12, none⟩) hm _)
 have hfind := fun (W : World) (hW : View (mask (w.setCell ⟨g, 12, none⟩ (.slice sa 0 cap)) M) M W) (hstW : StkAt g 12 130 (redCells rl mo fuel steps t.kind t.num (.slice a t.kids.length c) code found xk xn xs) [] M W) => find_any (u := mask (w.setCell ⟨g, 12, none⟩ (.slice sa 0 cap)) M) g 12 _ _ rl mo t.kids t.kind t.num W [] M _ hW hstW (by rw [Tm.eta]; exact ht.1) (by have := (valid_bounds ht).2; simp; omega) hs2
 rw [Tm.eta] at hfind
 have HF : Hid (∀ (W : World), Below (w.setCell ⟨g, 12, none⟩ (.slice sa 0 cap)).heap.size (w.setCell ⟨g, 12, none⟩ (.slice sa 0 cap)) W → Calls Tryz.prog 100 #[.agg #[.bool rl, .bool mo], .agg #[I6 t.kind, I6 t.num, .slice a t.kids.length c], .pointer (some ⟨g, 12, none⟩)] W (FindPost (mask (w.setCell ⟨g, 12, none⟩ (.slice sa 0 cap)) M) g 12 130 (redCells rl mo fuel steps t.kind t.num (.slice a t.kids.length c) code found xk xn xs) [] M W t (.slice a t.kids.length c) (t.find rl mo))) := tuck fun W h => hfind W ((View.mask _ _).below h) (hst2.below h)
 have HS2 := tuck hs2
 have HML : Hid (∀ i, M i → i < (w.setCell ⟨g, 12, none⟩ (.slice sa 0 cap)).heap.size) := tuck fun i hi => (hst2.lt i hi).2
 have HVT := tuck ht
 obtain ⟨z', d0, d1, d2, d3, d4, d5, d6, d7, d8, d9, d10, d11, hf'⟩ := red_cells hst2
 clear hfind c0 c1 c2 c3 c4 c5 c6 c7 c8 c9 c10 c11 hs2
 go_enter Tryz.func122, Tryz.ntmps122
 go_wp2_with fail
 generalize w.setCell ⟨g, 12, none⟩ (.slice sa 0 cap) = W1 at *
 have HP0 : Hid (∀ (w4 : World) (M' : Nat → Prop) (f' : Bool) (yk yn : Int) (ys : Value) (qs' : List (Tm × Value × Nat)), Step M W1 w4 M' → StkAt g 12 130 (redCells rl mo fuel steps t.kind t.num (.slice a t.kids.length c) code found xk xn xs) qs' M' w4 → (∀ W', View (mask W1 M) M' W' → match t.find rl mo with
  | none => f' = false
  | some (p, x) => f' = true ∧ yk = x.kind ∧ yn = x.num ∧ SlX W' M' x.kids ys ∧ PassX W' M' p qs') → SeekPost g rl mo fuel steps t code M w (.returned (.tuple #[])) ((((w4.setCell ⟨g, 9, none⟩ (I6 yk)).setCell ⟨g, 10, none⟩ (I6 yn)).setCell ⟨g, 11, none⟩ ys).setCell ⟨g, 8, none⟩ (.bool f'))) := tuck fun w4 M' f' yk yn ys qs' h1 h2 h3 => by
  have hm' : M' g := h2.own
  have hv : View (mask W1 M) M' ((((w4.setCell ⟨g, 9, none⟩ (I6 yk)).setCell ⟨g, 10, none⟩ (I6 yn)).setCell ⟨g, 11, none⟩ ys).setCell ⟨g, 8, none⟩ (.bool f')) := (((((View.mask W1 M).step h1).set (q := ⟨g, 9, none⟩) hm' _).set (q := ⟨g, 10, none⟩) hm' _).set (q := ⟨g, 11, none⟩) hm' _).set (q := ⟨g, 8, none⟩) hm' _
  exact ⟨rfl, M', HS0.out.trans ((((h1.setOwn (p := ⟨g, 9, none⟩) hm' _).setOwn (p := ⟨g, 10, none⟩) hm' _).setOwn (p := ⟨g, 11, none⟩) hm' _).setOwn (p := ⟨g, 8, none⟩) hm' _), _, f', yk, yn, ys, qs', stk_found h2 yk yn ys f', SlX.of_view HS2.out hv, h3 _ hv⟩
 generalize SeekPost g rl mo fuel steps t code M w = post at *
 cases hfd : t.find rl mo with
 | none =>
  rw [hfd] at HF HP0
  go_region_with (go_at_call 100; refine (HF.out _ (Below.refl _ _).drew).mono ?_; rintro e w4 hp4; obtain ⟨M', hst4, rfl, hsk4⟩ := FindPost.no hp4; have HQ := tuck (HP0.out w4 M' false t.kind t.num (.slice a t.kids.length c) [] ((Step.of_below (Below.refl _ _).drew HML.out).trans hst4) hsk4 (fun _ _ => rfl)); obtain ⟨z4, e0, e1, e2, e3, e4, e5, e6, e7, e8, e9, e10, e11, ef⟩ := red_cells hsk4; clear hp4 hst4 hsk4)
  all_goals (try go_wp2_with fail)
  all_goals (go_end0; exact HQ.out)
 | some y =>
  obtain ⟨p, x⟩ := y
  rw [hfd] at HF HP0
  obtain ⟨hip, -, -, -, hpv⟩ := Tm.find_ok t p x hfd HVT.out
  have HFO : Hid (InPath p ∧ ∀ y ∈ p, y.1.Valid) := tuck ⟨hip, hpv⟩
  clear hip hpv
  go_region_with (go_at_call 100; refine (HF.out _ (Below.refl _ _).drew).mono ?_; rintro e w4 hp4; obtain ⟨M', hst4, sx, qs', rfl, hsx4, hsk4, hpas4⟩ := FindPost.yes hp4; obtain ⟨xa, xc, rfl⟩ := hsx4.form; have HQ := tuck (HP0.out w4 M' true x.kind x.num (.slice xa x.kids.length xc) qs' ((Step.of_below (Below.refl _ _).drew HML.out).trans hst4) hsk4 (fun W' hv => ⟨rfl, rfl, rfl, SlX.of_view hsx4 hv, Passed.toX (fun l v h => SlX.of_view h hv) HFO.out.1 HFO.out.2 hpas4⟩)); obtain ⟨z4, e0, e1, e2, e3, e4, e5, e6, e7, e8, e9, e10, e11, ef⟩ := red_cells hsk4; clear hp4 hst4 hsk4 hsx4 hpas4)
  all_goals (try go_wp2_with fail)
  all_goals (go_end0; exact HQ.out)
end Go.Proofs.YtpddjebdncaceaaGreat
namespace Go.Proofs.YtpddjebdncaceaaGreat
open Go.RowKit
theorem PassX.to {w w' : World} {X X' : Nat → Prop} (hk : ∀ l v, SlX w X l v → SlX w' X' l v) : ∀ {p : List (Tm × Nat)} {qs : List (Tm × Value × Nat)}, PassX w X p qs → PassX w' X' p qs
 | [], [], _ => trivial
 | (t, i) :: p, (t', s, i') :: q, h => ⟨h.1, h.2.1, h.2.2.1, h.2.2.2.1, hk _ _ h.2.2.2.2.1, PassX.to hk h.2.2.2.2.2⟩
 | [], _ :: _, h => by cases h
 | _ :: _, [], h => by cases h
theorem RedAt.to {g : Nat} {rl mo : Bool} {fuel steps : Nat} {t : Tm} {code code' : Int} {M : Nat → Prop} {w w' : World} (h : RedAt g rl mo fuel steps t code M w) (hk : ∀ l v, SlX w M l v → SlX w' M l v)
  (hs : ∀ (s : Value) (found : Bool) (xk xn : Int) (xs : Value) (qs : List (Tm × Value × Nat)), StkAt g 12 130 (redCells rl mo fuel steps t.kind t.num s code found xk xn xs) qs M w → StkAt g 12 130 (redCells rl mo fuel steps t.kind t.num s code' found xk xn xs) qs M w') : RedAt g rl mo fuel steps t code' M w' := by
 obtain ⟨s, found, xk, xn, xs, qs, h1, h2, h3⟩ := h
 refine ⟨s, found, xk, xn, xs, qs, hs _ _ _ _ _ _ h1, hk _ _ h2, ?_⟩
 cases hf : t.find rl mo with
 | none => rw [hf] at h3; exact h3
 | some y =>
  obtain ⟨p, x⟩ := y
  rw [hf] at h3
  exact ⟨h3.1, h3.2.1, h3.2.2.1, hk _ _ h3.2.2.2.1, h3.2.2.2.2.to hk⟩
theorem RedAt.own {g : Nat} {rl mo : Bool} {fuel steps : Nat} {t : Tm} {code : Int} {M : Nat → Prop} {w : World} (h : RedAt g rl mo fuel steps t code M w) : M g ∧ ∀ i, M i → g ≤ i ∧ i < w.heap.size := by
 obtain ⟨s, found, xk, xn, xs, qs, h1, h2, h3⟩ := h
 exact ⟨h1.own, h1.lt⟩
theorem RedAt.below {g : Nat} {rl mo : Bool} {fuel steps : Nat} {t : Tm} {code : Int} {M : Nat → Prop} {w w' : World} (h : RedAt g rl mo fuel steps t code M w) (hb : Below w.heap.size w w') : RedAt g rl mo fuel steps t code M w' :=
 h.to (fun _ _ h => h.below hb) fun _ _ _ _ _ _ h => h.below hb
theorem RedAt.code {g : Nat} {rl mo : Bool} {fuel steps : Nat} {t : Tm} {code : Int} {M : Nat → Prop} {w : World} (h : RedAt g rl mo fuel steps t code M w) (c : Int) : RedAt g rl mo fuel steps t c M (w.setCell ⟨g, 7, none⟩ (I6 c)) :=
 h.to (fun _ _ h' => h'.set (q := ⟨g, 7, none⟩) h.own.1 _) fun _ _ _ _ _ _ h' => h'.setOther (j := 7) (by decide) (I6 c)
theorem RedAt.facts {g : Nat} {rl mo : Bool} {fuel steps : Nat} {t : Tm} {code : Int} {M : Nat → Prop} {w : World} (h : RedAt g rl mo fuel steps t code M w) : g < w.heap.size ∧ w.cell? ⟨g, 2, none⟩ = some (I6 fuel) ∧ w.cell? ⟨g, 3, none⟩ = some (I6 steps) ∧ w.cell? ⟨g, 4, none⟩ = some (I6 t.kind) ∧ w.cell? ⟨g, 5, none⟩ = some (I6 t.num) ∧
  (∃ (a : Option Addr) (c : Nat), w.cell? ⟨g, 6, none⟩ = some (.slice a t.kids.length c) ∧ SlX w M t.kids (.slice a t.kids.length c)) ∧ w.cell? ⟨g, 7, none⟩ = some (I6 code) ∧ w.cell? ⟨g, 8, none⟩ = some (.bool (t.find rl mo).isSome) ∧ ∀ i, w.frozen? ⟨g, i, none⟩ = false := by
 obtain ⟨s, found, xk, xn, xs, qs, h1, h2, h3⟩ := h
 obtain ⟨a, c, rfl⟩ := h2.form
 obtain ⟨z, c0, c1, c2, c3, c4, c5, c6, c7, c8, c9, c10, c11, hf⟩ := red_cells h1
 refine ⟨z, c2, c3, c4, c5, ⟨a, c, c6, h2⟩, c7, ?_, hf⟩
 cases hf : t.find rl mo with
 | none => rw [hf] at h3; rw [c8, h3]; rfl
 | some y =>
  obtain ⟨p, x⟩ := y
  rw [hf] at h3
  rw [c8, h3.1]
  rfl
def StartPost (rl mo : Bool) (fuel : Nat) (t : Tm) (w : World) (e : Ending) (w' : World) : Prop := ∃ (g : Nat) (M : Nat → Prop), e = .returned (.pointer (some ⟨g, 0, none⟩)) ∧ Below w.heap.size w w' ∧ (∀ i, M i → w.heap.size ≤ i) ∧ RedAt g rl mo fuel 0 t 0 M w'
set_option maxRecDepth 100000 in
set_option maxHeartbeats 4000000 in
theorem start_any (rl mo : Bool) (fuel : Nat) (t : Tm) (ht : t.Valid) (w : World) (s : Value) (hs : SlIn w 0 t.kids s) : Calls Tryz.prog 91 #[.agg #[I6 t.kind, I6 t.num, s], I6 fuel, .agg #[.bool rl, .bool mo]] w (StartPost rl mo fuel t w) := by
 obtain ⟨a, c, rfl⟩ := hs.form
 have hst : StkAt (w.heap.size + 2) 12 130 (redCells rl mo fuel 0 t.kind t.num (.slice a t.kids.length c) 0 false 0 0 (.slice none 0 0)) [] (fun i => i = w.heap.size + 2 ∨ (Value.slice none 0 0).ownBlock = some i) (((w.alloc (.cells #[I6 t.kind, I6 t.num, .slice a t.kids.length c] 34)).alloc (.cells #[.bool rl, .bool mo] 87)).alloc (.cells #[.bool rl, .bool mo, I6 fuel, I6 0, I6 t.kind, I6 t.num, .slice a t.kids.length c, I6 0, .bool false, I6 0, I6 0, .slice none 0 0, .slice none 0 0] 130)) :=
  ⟨by simp, .slice none 0 0, by have := heap_new ((w.alloc (.cells #[I6 t.kind, I6 t.num, .slice a t.kids.length c] 34)).alloc (.cells #[.bool rl, .bool mo] 87)) (.cells #[.bool rl, .bool mo, I6 fuel, I6 0, I6 t.kind, I6 t.num, .slice a t.kids.length c, I6 0, .bool false, I6 0, I6 0, .slice none 0 0, .slice none 0 0] 130); simpa [redCells] using this, by simp [redCells], World.ownsRow_nil _ _ _ _, rfl⟩
 have hb3 := below3 w (.cells #[I6 t.kind, I6 t.num, .slice a t.kids.length c] 34) (.cells #[.bool rl, .bool mo] 87) (.cells #[.bool rl, .bool mo, I6 fuel, I6 0, I6 t.kind, I6 t.num, .slice a t.kids.length c, I6 0, .bool false, I6 0, I6 0, .slice none 0 0, .slice none 0 0] 130)
 have hM : ∀ i, (i = w.heap.size + 2 ∨ (Value.slice none 0 0).ownBlock = some i) → w.heap.size ≤ i := fun i hi => by
  rcases hi with rfl | hi
  ·omega
  ·cases hi
 have hsx : SlX (((w.alloc (.cells #[I6 t.kind, I6 t.num, .slice a t.kids.length c] 34)).alloc (.cells #[.bool rl, .bool mo] 87)).alloc (.cells #[.bool rl, .bool mo, I6 fuel, I6 0, I6 t.kind, I6 t.num, .slice a t.kids.length c, I6 0, .bool false, I6 0, I6 0, .slice none 0 0, .slice none 0 0] 130)) (fun i => i = w.heap.size + 2 ∨ (Value.slice none 0 0).ownBlock = some i) t.kids (.slice a t.kids.length c) := (SlX.of_view hs (View.self hM)).below hb3
 have HSK := tuck (seek_any _ rl mo fuel 0 t ht 0 false 0 0 _ _ _ _ _ hst hsx)
 have HP : Hid (∀ w', SeekPost (w.heap.size + 2) rl mo fuel 0 t 0 (fun i => i = w.heap.size + 2 ∨ (Value.slice none 0 0).ownBlock = some i) (((w.alloc (.cells #[I6 t.kind, I6 t.num, .slice a t.kids.length c] 34)).alloc (.cells #[.bool rl, .bool mo] 87)).alloc (.cells #[.bool rl, .bool mo, I6 fuel, I6 0, I6 t.kind, I6 t.num, .slice a t.kids.length c, I6 0, .bool false, I6 0, I6 0, .slice none 0 0, .slice none 0 0] 130)) (.returned (.tuple #[])) w' → StartPost rl mo fuel t w (.returned (.pointer (some ⟨w.heap.size + 2, 0, none⟩))) w') := tuck fun w' h => by
  obtain ⟨-, M', h1, h2⟩ := h
  exact ⟨_, M', rfl, h1.below hb3 hb3.size hM, h1.ge hb3.size hM, h2⟩
 generalize StartPost rl mo fuel t w = post at *
 clear hs hst hb3 hM hsx
 go_enter Tryz.func91, Tryz.ntmps91
 go_wp2_with fail
 refine HSK.out.mono ?_
 rintro e w4 hp4
 obtain rfl := hp4.1
 have HQ := tuck (HP.out _ hp4)
 clear hp4 HP HSK
 go_wp2_with fail
 exact HQ.out
end Go.Proofs.YtpddjebdncaceaaGreat
namespace Go.Proofs.YtpddjebdncaceaaGreat
open Go.RowKit
def RunPost (g : Nat) (rl mo : Bool) (fuel steps : Nat) (t : Tm) (code : Int) (M : Nat → Prop) (w : World) (e : Ending) (w' : World) : Prop :=
 ∃ M', Step M w w' M' ∧ ((t.step rl mo = none ∧ e = .returned (.bool false) ∧ RedAt g rl mo fuel steps t 0 M' w') ∨
  ∃ t', t.step rl mo = some t' ∧ ((steps = fuel ∧ e = .returned (.bool false) ∧ RedAt g rl mo fuel steps t 1 M' w') ∨
   (steps ≠ fuel ∧ ¬ t'.Valid ∧ e = .returned (.bool false) ∧ RedAt g rl mo fuel steps t 2 M' w') ∨
   (steps ≠ fuel ∧ t'.Valid ∧ e = .returned (.bool true) ∧ RedAt g rl mo fuel (steps + 1) t' code M' w')))
theorem stk_next {g : Nat} {rl mo : Bool} {fuel steps : Nat} {k n : Int} {s : Value} {code : Int} {found : Bool} {xk xn : Int} {xs : Value} {qs : List (Tm × Value × Nat)} {M : Nat → Prop} {w : World} (h : StkAt g 12 130 (redCells rl mo fuel steps k n s code found xk xn xs) qs M w) (k' n' : Int) (s' : Value) :
  StkAt g 12 130 (redCells rl mo fuel (steps + 1) k' n' s' code found xk xn xs) qs M ((((w.setCell ⟨g, 4, none⟩ (I6 k')).setCell ⟨g, 5, none⟩ (I6 n')).setCell ⟨g, 6, none⟩ s').setCell ⟨g, 3, none⟩ (I6 ((steps : Int) + 1))) := by
 have := (((h.setOther (j := 4) (by decide) (I6 k')).setOther (j := 5) (by decide) (I6 n')).setOther (j := 6) (by decide) s').setOther (j := 3) (by decide) (I6 ((steps : Int) + 1))
 exact this
theorem SlX.wideB {w W : World} {M : Nat → Prop} {l : List Tm} {v : Value} (h : SlX w M l v) (hb : Below w.heap.size w W) : SlX W (fun i => M i ∨ i = w.heap.size) l v :=
 h.to fun p u hn hc => ⟨fun hx => hx.elim hn (fun e => by have := World.block_lt_of_cell? w p hc; omega), (hb.cell (World.block_lt_of_cell? w p hc)).trans hc⟩
set_option maxRecDepth 100000 in
set_option maxHeartbeats 4000000 in
theorem rstep_any (g : Nat) (rl mo : Bool) (fuel steps : Nat) (hf : fuel ≤ 1000) (hst0 : steps ≤ fuel) (t : Tm) (ht : t.Valid) (code : Int) (M : Nat → Prop) (w : World) (h : RedAt g rl mo fuel steps t code M w) : Calls Tryz.prog 92 #[.pointer (some ⟨g, 0, none⟩)] w (RunPost g rl mo fuel steps t code M w) := by
 have HR := tuck h
 have hstp : t.step rl mo = (t.find rl mo).map fun x => around x.1 x.2.contr := t.find_step
 obtain ⟨s, found, xk, xn, xs, qs, hst, hs, hm⟩ := h
 obtain ⟨z, c0, c1, c2, c3, c4, c5, c6, c7, c8, c9, c10, c11, hfr⟩ := red_cells hst
 have HML : Hid (∀ i, M i → i < w.heap.size) := tuck fun i hi => (hst.lt i hi).2
 have HMG : Hid (M g) := tuck hst.own
 cases hfd : t.find rl mo with
 | none =>
  rw [hfd] at hm hstp
  obtain rfl : found = false := hm
  have HQ : Hid (RunPost g rl mo fuel steps t code M w (.returned (.bool false)) (w.setCell ⟨g, 7, none⟩ (I6 0))) := tuck ⟨M, (Step.refl HML.out).setOwn (p := ⟨g, 7, none⟩) HMG.out _, Or.inl ⟨hstp, rfl, HR.out.code 0⟩⟩
  generalize RunPost g rl mo fuel steps t code M w = post at *
  clear hst hs hfd hstp HR
  go_enter Tryz.func92, Tryz.ntmps92
  go_wp2_with fail
  exact HQ.out
 | some y =>
  obtain ⟨p, x⟩ := y
  rw [hfd] at hm hstp
  obtain ⟨rfl, rfl, rfl, hxs, hps⟩ := hm
  replace hstp : t.step rl mo = some (around p x.contr) := hstp
  by_cases hsf : steps = fuel
  ·have HQ : Hid (RunPost g rl mo fuel steps t code M w (.returned (.bool false)) (w.setCell ⟨g, 7, none⟩ (I6 1)).drew) := tuck ⟨M, ((Step.refl HML.out).setOwn (p := ⟨g, 7, none⟩) HMG.out _).and (Below.refl _ _).drew, Or.inr ⟨_, hstp, Or.inl ⟨hsf, rfl, (HR.out.code 1).below (Below.refl _ _).drew⟩⟩⟩
   generalize RunPost g rl mo fuel steps t code M w = post at *
   have hse : ((steps : Int) == (fuel : Int)) = true := by simp [hsf]
   clear hst hs hfd hstp HR hxs hps hsf
   go_enter Tryz.func92, Tryz.ntmps92
   go_wp2_with fail
   go_region
   all_goals (try go_wp2_with fail)
   all_goals exact HQ.out
  ·have hse : ((steps : Int) == (fuel : Int)) = false := by simp; omega
   obtain ⟨hip, hx0, hxv, hpl, hpv⟩ := Tm.find_ok t p x hfd ht
   obtain ⟨sa, gb, cap, hcv, hgb, hcells⟩ := hst.view
   obtain ⟨xa, xc, rfl⟩ := hxs.form
   have HC : Hid (∀ W, Below w.heap.size w W → Calls Tryz.prog 44 #[.slice sa qs.length cap, .agg #[I6 x.kind, I6 x.num, .slice xa x.kids.length xc]] W (ContrPost M W (around p x.contr).Valid (around p x.contr))) := tuck fun W hb => scontract_any W M (fun i hi => Nat.lt_of_lt_of_le (hst.lt i hi).2 hb.size) p hip qs (hps.to fun l v h => h.below hb) (by have := hst.1; omega) sa gb cap (fun hn => ⟨(hgb hn).1, Nat.lt_of_lt_of_le (hgb hn).2 hb.size⟩) (fun j u hu => (hb.cell (World.block_lt_of_cell? w _ (hcells j u hu))).trans (hcells j u hu)) x hxv.root (fun i hi => hxv.get hi) hx0 _ (hxs.below hb)
   have HCB : Hid (∀ W, Below w.heap.size w W → w.heap.size < W.heap.size → Calls Tryz.prog 44 #[.slice sa qs.length cap, .agg #[I6 x.kind, I6 x.num, .slice xa x.kids.length xc]] W (ContrPost (fun i => M i ∨ i = w.heap.size) W (around p x.contr).Valid (around p x.contr))) := tuck fun W hb hlt => scontract_any W _ (fun i hi => by
     rcases hi with hi | rfl
     ·exact Nat.lt_of_lt_of_le (hst.lt i hi).2 hb.size
     ·exact hlt) p hip qs (hps.to fun l v h => h.wideB hb) (by have := hst.1; omega) sa gb cap (fun hn => ⟨(hgb hn).1, Nat.lt_of_lt_of_le (hgb hn).2 hb.size⟩) (fun j u hu => (hb.cell (World.block_lt_of_cell? w _ (hcells j u hu))).trans (hcells j u hu)) x hxv.root (fun i hi => hxv.get hi) hx0 _ (hxs.wideB hb)
   have hs3 : (steps : Int) + 1 ≤ 1001 := by omega
   have hgz : g < w.heap.size := z
   by_cases hR : (around p x.contr).Valid
   ·have HCV : Hid (∀ W, Below w.heap.size w W → Calls Tryz.prog 44 #[.slice sa qs.length cap, .agg #[I6 x.kind, I6 x.num, .slice xa x.kids.length xc]] W fun e w' => ∃ (ua : Option Addr) (uc : Nat), e = .returned (.tuple #[.agg #[I6 (around p x.contr).kind, I6 (around p x.contr).num, .slice ua (around p x.contr).kids.length uc], .bool true]) ∧ Below W.heap.size W w' ∧ SlX w' M (around p x.contr).kids (.slice ua (around p x.contr).kids.length uc)) := tuck fun W hb => (HC.out W hb).mono fun e w' hp => by
     obtain ⟨U, ua, uc, rfl, hb6, hs6, hU⟩ := hp.open
     obtain rfl := hU hR
     rw [tr_of hR]
     exact ⟨ua, uc, rfl, hb6, hs6⟩
    have HCVB : Hid (∀ W, Below w.heap.size w W → w.heap.size < W.heap.size → Calls Tryz.prog 44 #[.slice sa qs.length cap, .agg #[I6 x.kind, I6 x.num, .slice xa x.kids.length xc]] W fun e w' => ∃ (ua : Option Addr) (uc : Nat), e = .returned (.tuple #[.agg #[I6 (around p x.contr).kind, I6 (around p x.contr).num, .slice ua (around p x.contr).kids.length uc], .bool true]) ∧ Below W.heap.size W w' ∧ SlX w' (fun i => M i ∨ i = w.heap.size) (around p x.contr).kids (.slice ua (around p x.contr).kids.length uc)) := tuck fun W hb hlt => (HCB.out W hb hlt).mono fun e w' hp => by
     obtain ⟨U, ua, uc, rfl, hb6, hs6, hU⟩ := hp.open
     obtain rfl := hU hR
     rw [tr_of hR]
     exact ⟨ua, uc, rfl, hb6, hs6⟩
    have HQ : Hid (∀ (W : World) (a' : Option Addr) (c' : Nat), Below w.heap.size w W → SlX W M (around p x.contr).kids (.slice a' (around p x.contr).kids.length c') → Calls Tryz.prog 122 #[.pointer (some ⟨g, 0, none⟩)] ((((W.setCell ⟨g, 4, none⟩ (I6 (around p x.contr).kind)).setCell ⟨g, 5, none⟩ (I6 (around p x.contr).num)).setCell ⟨g, 6, none⟩ (.slice a' (around p x.contr).kids.length c')).setCell ⟨g, 3, none⟩ (I6 ((steps : Int) + 1))) fun e w' => e = .returned (.tuple #[]) ∧ RunPost g rl mo fuel steps t code M w (.returned (.bool true)) w') := tuck fun W a' c' hb hsx => by
     have hst' := stk_next (hst.below hb) (around p x.contr).kind (around p x.contr).num (.slice a' (around p x.contr).kids.length c')
     have hsx' : SlX ((((W.setCell ⟨g, 4, none⟩ (I6 (around p x.contr).kind)).setCell ⟨g, 5, none⟩ (I6 (around p x.contr).num)).setCell ⟨g, 6, none⟩ (.slice a' (around p x.contr).kids.length c')).setCell ⟨g, 3, none⟩ (I6 ((steps : Int) + 1))) M (around p x.contr).kids (.slice a' (around p x.contr).kids.length c') := (((hsx.set (q := ⟨g, 4, none⟩) HMG.out _).set (q := ⟨g, 5, none⟩) HMG.out _).set (q := ⟨g, 6, none⟩) HMG.out _).set (q := ⟨g, 3, none⟩) HMG.out _
     refine (seek_any g rl mo fuel (steps + 1) (around p x.contr) hR code true x.kind x.num _ _ qs M _ hst' hsx').mono ?_
     rintro e w' ⟨rfl, M', h1, h2⟩
     refine ⟨rfl, M', Step.trans ?_ h1, Or.inr ⟨_, hstp, Or.inr (Or.inr ⟨hsf, hR, rfl, h2⟩)⟩⟩
     exact ((((Step.of_below hb HML.out).setOwn (p := ⟨g, 4, none⟩) HMG.out _).setOwn (p := ⟨g, 5, none⟩) HMG.out _).setOwn (p := ⟨g, 6, none⟩) HMG.out _).setOwn (p := ⟨g, 3, none⟩) HMG.out _
    have HSTK : Hid (∀ W, Below w.heap.size w W → g < W.heap.size ∧ W.cell? ⟨g, 3, none⟩ = some (I6 steps) ∧ W.cell? ⟨g, 4, none⟩ = some (I6 t.kind) ∧ W.cell? ⟨g, 5, none⟩ = some (I6 t.num) ∧ W.cell? ⟨g, 6, none⟩ = some s ∧ ∀ i, W.frozen? ⟨g, i, none⟩ = false) := tuck fun W hb => ⟨Nat.lt_of_lt_of_le hgz hb.size, (hb.cell (p := ⟨g, 3, none⟩) hgz).trans c3, (hb.cell (p := ⟨g, 4, none⟩) hgz).trans c4, (hb.cell (p := ⟨g, 5, none⟩) hgz).trans c5, (hb.cell (p := ⟨g, 6, none⟩) hgz).trans c6, fun i => (hb.frozen (p := ⟨g, i, none⟩) hgz).trans (hfr i)⟩
    generalize RunPost g rl mo fuel steps t code M w = post at *
    clear hst hs hfd hstp HR hsf HC HCB hgb hcells hR hxs hps hip hx0 hxv hpl hpv
    generalize around p x.contr = R at *
    go_enter Tryz.func92, Tryz.ntmps92
    go_upto_region 4 with fail
    go_cut [21] (fun c wx => c = .bool false ∧ wx = w.drew)
    case first =>
     go_region
     all_goals (go_wp2_with fail; go_meet)
     all_goals exact ⟨rfl, rfl⟩
    case rest =>
    obtain ⟨rfl, rfl⟩ := hcut
    go_upto_region 7 with fail
    go_cut [3, 4] (fun p cw wx => ∃ (gz : Nat) (az : Option Addr) (nz : Nat), p = .pointer (some ⟨gz, 0, none⟩) ∧ cw = .bool true ∧ Below w.heap.size w wx ∧ VarAt gz R.kind R.num (.slice az R.kids.length nz) wx ∧ SlX wx M R.kids (.slice az R.kids.length nz))
    case first =>
     go_region_with (first | (go_at_call 44; refine (HCV.out w.drew.drew (Below.refl _ _).drew.drew).mono ?_; rintro e w6 ⟨ua, uc, rfl, hb6, hs6⟩; have HB6 : Hid (Below w.heap.size w w6) := tuck (bAfter (Below.refl _ _).drew.drew hb6); have HS6 := tuck hs6; clear hb6 hs6) | (go_at_call 44; refine (HCVB.out (w.alloc (.cells #[I6 0, I6 0, .slice none 0 0] 34)).drew.drew (below1 _ _).drew.drew (by simp)).mono ?_; rintro e w6 ⟨ua, uc, rfl, hb6, hs6⟩; have HB6 : Hid (Below w.heap.size w w6) := tuck (bAfter (below1 w (.cells #[I6 0, I6 0, .slice none 0 0] 34)).drew.drew hb6); have HVN : Hid (VarAt w.heap.size 0 0 (.slice none 0 0) w6) := tuck (((VarAt.new w 0 0 (.slice none 0 0)).below (Below.refl _ _).drew.drew).below hb6); obtain ⟨zn, n0, n1, n2, nf⟩ := HVN.out.facts; have HS6 := tuck hs6; clear hb6 hs6))
     all_goals (go_wp2_with fail; go_meet)
     all_goals first
      | exact ⟨w6.heap.size, ua, uc, rfl, rfl, bAfter HB6.out (below1 w6 (.cells #[I6 R.kind, I6 R.num, .slice ua R.kids.length uc] 34)), VarAt.new w6 R.kind R.num (.slice ua R.kids.length uc), HS6.out.below (below1 w6 (.cells #[I6 R.kind, I6 R.num, .slice ua R.kids.length uc] 34))⟩
      | exact ⟨w.heap.size, ua, uc, rfl, rfl, bSet3 HB6.out (Nat.le_refl _) 0 1 2 (I6 R.kind) (I6 R.num) (.slice ua R.kids.length uc), HVN.out.set3, (SlX.put HS6.out (g := w.heap.size) (Or.inr rfl) 0 1 2 (I6 R.kind) (I6 R.num) (.slice ua R.kids.length uc)).less (X := M) (fun i h => Or.inl h)⟩
    case rest =>
    obtain ⟨gz, az, nz, rfl, rfl, hbx, hvx, hsw⟩ := hcut
    rename World => W7
    obtain ⟨zb, b0, b1, b2, -⟩ := hvx.facts
    have HBX := tuck hbx
    have HSW := tuck hsw
    obtain ⟨zg, g3, g4, g5, g6, gf⟩ := HSTK.out _ hbx
    clear hbx hvx hsw
    go_wp2_with fail
    refine (HQ.out W7 az nz HBX.out HSW.out).mono ?_
    rintro e w8 ⟨rfl, hq⟩
    have HQ8 := tuck hq
    clear hq
    go_wp2_with fail
    exact HQ8.out
   ·have HCV : Hid (∀ W, Below w.heap.size w W → Calls Tryz.prog 44 #[.slice sa qs.length cap, .agg #[I6 x.kind, I6 x.num, .slice xa x.kids.length xc]] W fun e w' => ∃ (k n : Int) (ua : Option Addr) (uL uc : Nat), e = .returned (.tuple #[.agg #[I6 k, I6 n, .slice ua uL uc], .bool false]) ∧ Below W.heap.size W w') := tuck fun W hb => (HC.out W hb).mono fun e w' hp => by
     obtain ⟨U, ua, uc, rfl, hb6, hs6, hU⟩ := hp.open
     rw [tr_not hR]
     exact ⟨_, _, ua, _, uc, rfl, hb6⟩
    have HQ : Hid (∀ (W : World), Below w.heap.size w W → RunPost g rl mo fuel steps t code M w (.returned (.bool false)) (W.setCell ⟨g, 7, none⟩ (I6 2))) := tuck fun W hb => ⟨M, (Step.of_below hb HML.out).setOwn (p := ⟨g, 7, none⟩) HMG.out _, Or.inr ⟨_, hstp, Or.inr (Or.inl ⟨hsf, hR, rfl, (HR.out.below hb).code 2⟩)⟩⟩
    have HSTK : Hid (∀ W, Below w.heap.size w W → g < W.heap.size ∧ ∀ i, W.frozen? ⟨g, i, none⟩ = false) := tuck fun W hb => ⟨Nat.lt_of_lt_of_le hgz hb.size, fun i => (hb.frozen (p := ⟨g, i, none⟩) hgz).trans (hfr i)⟩
    have HC7 : Hid (∀ W, Below w.heap.size w W → W.cell? ⟨g, 7, none⟩ = some (I6 code)) := tuck fun W hb => (hb.cell (p := ⟨g, 7, none⟩) hgz).trans c7
    generalize RunPost g rl mo fuel steps t code M w = post at *
    clear hst hs hfd hstp HR hsf HC HCB hgb hcells hR hxs hps hip hx0 hxv hpl hpv
    generalize around p x.contr = R at *
    go_enter Tryz.func92, Tryz.ntmps92
    go_upto_region 4 with fail
    go_cut [21] (fun c wx => c = .bool false ∧ wx = w.drew)
    case first =>
     go_region
     all_goals (go_wp2_with fail; go_meet)
     all_goals exact ⟨rfl, rfl⟩
    case rest =>
    obtain ⟨rfl, rfl⟩ := hcut
    go_upto_region 7 with fail
    go_cut [4] (fun cw wx => cw = .bool false ∧ Below w.heap.size w wx)
    case first =>
     go_region_with (first | (go_at_call 44; refine (HCV.out w.drew.drew (Below.refl _ _).drew.drew).mono ?_; rintro e w6 ⟨k', n', ua, uL, uc, rfl, hb6⟩; have HB6 : Hid (Below w.heap.size w w6) := tuck (bAfter (Below.refl _ _).drew.drew hb6); clear hb6) | (go_at_call 44; refine (HCV.out (w.alloc (.cells #[I6 0, I6 0, .slice none 0 0] 34)).drew.drew (below1 _ _).drew.drew).mono ?_; rintro e w6 ⟨k', n', ua, uL, uc, rfl, hb6⟩; have HB6 : Hid (Below w.heap.size w w6) := tuck (bAfter (below1 w (.cells #[I6 0, I6 0, .slice none 0 0] 34)).drew.drew hb6); have HVN : Hid (VarAt w.heap.size 0 0 (.slice none 0 0) w6) := tuck (((VarAt.new w 0 0 (.slice none 0 0)).below (Below.refl _ _).drew.drew).below hb6); obtain ⟨zn, n0, n1, n2, nf⟩ := HVN.out.facts; clear hb6))
     all_goals (go_wp2_with fail; go_meet)
     all_goals first
      | exact ⟨rfl, bAfter HB6.out (below1 w6 _)⟩
      | exact ⟨rfl, bSet3 HB6.out (Nat.le_refl _) _ _ _ _ _ _⟩
    case rest =>
    obtain ⟨rfl, hbx⟩ := hcut
    rename World => W7
    have HBX := tuck hbx
    have g7 := HC7.out _ hbx
    obtain ⟨zg, gf⟩ := HSTK.out _ hbx
    clear hbx
    go_wp2_with fail
    exact HQ.out _ HBX.out
end Go.Proofs.YtpddjebdncaceaaGreat
