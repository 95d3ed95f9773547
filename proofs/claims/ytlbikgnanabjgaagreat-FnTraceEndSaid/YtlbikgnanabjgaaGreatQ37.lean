/-
  NormI, NormJ.
-/
import Derived.Test.YtlbikgnanabjgaaGreatQ36
namespace Go.Proofs.YtlbikgnanabjgaaGreat
open Go.RowKit
def redCells (rl mo : Bool) (fuel steps : Nat) (k n : Int) (s : Value) (code : Int) (found : Bool) (xk xn : Int) (xs : Value) : Array Value :=
 #[.bool rl, .bool mo, .int .i64 fuel, .int .i64 steps, .int .i64 k, .int .i64 n, s, .int .i64 code, .bool found, .int .i64 xk, .int .i64 xn, xs, .slice none 0 0]
def RedAt (g : Nat) (rl mo : Bool) (fuel steps : Nat) (t : Tm) (code : Int) (M : Nat → Prop) (w : World) : Prop :=
 ∃ (s : Value) (found : Bool) (xk xn : Int) (xs : Value) (qs : List (Tm × Value × Nat)), StkAt g 12 56 (redCells rl mo fuel steps t.kind t.num s code found xk xn xs) qs M w ∧ SlX w M t.kids s ∧
  match t.find rl mo with
  | none => found = false
  | some (p, x) => found = true ∧ xk = x.kind ∧ xn = x.num ∧ SlX w M x.kids xs ∧ PassX w M p qs
theorem StkAt.setOther {g o j : Nat} {T : TypeId} {cs : Array Value} {ps : List (Tm × Value × Nat)} {M : Nat → Prop} {w : World} (h : StkAt g o T cs ps M w) (hj : j ≠ o) (u : Value) : StkAt g o T (cs.setIfInBounds j u) ps M (w.setCell ⟨g, j, none⟩ u) := by
 obtain ⟨h1, v, h2, ho, h3, rfl⟩ := h
 refine ⟨h1, v, ?_, by simpa using ho, ownsRow_setCell_below h3 (a := ⟨g, j, none⟩) (Nat.lt_succ_self g) _, rfl⟩
 have := block_set h2 j u
 rwa [Array.setIfInBounds_comm _ _ (fun e => hj e.symm)] at this
theorem StkAt.reset {g o : Nat} {T : TypeId} {cs : Array Value} {ps : List (Tm × Value × Nat)} {M : Nat → Prop} {w : World} (h : StkAt g o T cs ps M w) : ∃ (sa : Option Addr) (cap : Nat), w.cell? ⟨g, o, none⟩ = some (.slice sa ps.length cap) ∧ StkAt g o T cs [] M (w.setCell ⟨g, o, none⟩ (.slice sa 0 cap)) := by
 obtain ⟨h1, v, h2, ho, h3, rfl⟩ := h
 obtain ⟨va, vc, rfl⟩ := own_form h3
 refine ⟨va, vc, (stk_cells h2 ho).2.1, Nat.zero_le _, .slice va 0 vc, stk_set h2 _, ho, ?_, ?_⟩
 ·have h4 : w.ownsRow (g + 1) 103 4 (.slice va 0 vc) 0 (stkCells []) := by
   rcases h3.2 with ⟨h', _⟩ | ⟨gb, cap', cur, h', hb, hg, hnc, hcm, hcs, _⟩
   ·simp only [Value.slice.injEq] at h'
    obtain ⟨rfl, -, rfl⟩ := h'
    exact World.ownsRow_nil _ _ _ _
   ·simp only [Value.slice.injEq] at h'
    obtain ⟨rfl, -, rfl⟩ := h'
    exact ⟨rfl, .inr ⟨gb, vc, cur, rfl, hb, hg, Nat.zero_le _, hcm, hcs, by simp [stkCells]⟩⟩
  exact ownsRow_setCell_below h4 (a := ⟨g, o, none⟩) (Nat.lt_succ_self g) _
 ·funext i
  rcases h3.2 with ⟨h', _⟩ | ⟨gb, cap', cur, h', _⟩
  ·simp only [Value.slice.injEq] at h'
   obtain ⟨rfl, -⟩ := h'
   simp [Value.ownBlock]
  ·simp only [Value.slice.injEq] at h'
   obtain ⟨rfl, -⟩ := h'
   simp [Value.ownBlock]
end Go.Proofs.YtlbikgnanabjgaaGreat
namespace Go.Proofs.YtlbikgnanabjgaaGreat
open Go.RowKit
def SeekPost (g : Nat) (rl mo : Bool) (fuel steps : Nat) (t : Tm) (code : Int) (M : Nat → Prop) (w : World) (e : Ending) (w' : World) : Prop := e = .returned (.tuple #[]) ∧ ∃ M', Step M w w' M' ∧ RedAt g rl mo fuel steps t code M' w'
theorem red_cells {g : Nat} {rl mo : Bool} {fuel steps : Nat} {k n : Int} {s : Value} {code : Int} {found : Bool} {xk xn : Int} {xs : Value} {qs : List (Tm × Value × Nat)} {M : Nat → Prop} {w : World} (h : StkAt g 12 56 (redCells rl mo fuel steps k n s code found xk xn xs) qs M w) :
  g < w.heap.size ∧ w.cell? ⟨g, 0, none⟩ = some (.bool rl) ∧ w.cell? ⟨g, 1, none⟩ = some (.bool mo) ∧ w.cell? ⟨g, 2, none⟩ = some (.int .i64 fuel) ∧ w.cell? ⟨g, 3, none⟩ = some (.int .i64 steps) ∧ w.cell? ⟨g, 4, none⟩ = some (.int .i64 k) ∧ w.cell? ⟨g, 5, none⟩ = some (.int .i64 n) ∧ w.cell? ⟨g, 6, none⟩ = some s ∧ w.cell? ⟨g, 7, none⟩ = some (.int .i64 code) ∧
  w.cell? ⟨g, 8, none⟩ = some (.bool found) ∧ w.cell? ⟨g, 9, none⟩ = some (.int .i64 xk) ∧ w.cell? ⟨g, 10, none⟩ = some (.int .i64 xn) ∧ w.cell? ⟨g, 11, none⟩ = some xs ∧ ∀ i, w.frozen? ⟨g, i, none⟩ = false := by
 obtain ⟨h1, v, h2, ho, h3, h4⟩ := h
 obtain ⟨z, c, f⟩ := block_of_cells h2
 exact ⟨z, c 0, c 1, c 2, c 3, c 4, c 5, c 6, c 7, c 8, c 9, c 10, c 11, f⟩
theorem Step.setOwn {M M' : Nat → Prop} {a b : World} (h : Step M a b M') {p : Addr} (hp : M' p.block) (u : Value) : Step M a (b.setCell p u) M' :=
 ⟨h.os, h.tape, h.output, by have := h.size; simpa [World.setCell] using this, fun i hi hn => (Below.heap_setCell b p u i (fun e => hn (h.grow i hi (e ▸ hp)))).trans (h.block i hi hn), h.grow, fun i hi => by simpa [World.setCell] using h.lt i hi⟩
theorem FindPost.no {u : World} {g so : Nat} {sT : TypeId} {scs : Array Value} {ps : List (Tm × Value × Nat)} {M : Nat → Prop} {w w' : World} {t : Tm} {s : Value} {e : Ending} (h : FindPost u g so sT scs ps M w t s none e w') :
  ∃ M', Step M w w' M' ∧ e = .returned (.tuple #[.agg #[.int .i64 t.kind, .int .i64 t.num, s], .bool false]) ∧ StkAt g so sT scs ps M' w' := h
theorem FindPost.yes {u : World} {g so : Nat} {sT : TypeId} {scs : Array Value} {ps : List (Tm × Value × Nat)} {M : Nat → Prop} {w w' : World} {t : Tm} {s : Value} {p : List (Tm × Nat)} {x : Tm} {e : Ending} (h : FindPost u g so sT scs ps M w t s (some (p, x)) e w') :
  ∃ M', Step M w w' M' ∧ ∃ sx qs, e = .returned (.tuple #[.agg #[.int .i64 x.kind, .int .i64 x.num, sx], .bool true]) ∧ SlIn u 0 x.kids sx ∧ StkAt g so sT scs (ps ++ qs) M' w' ∧ Passed u p qs := h
theorem stk_found {g : Nat} {rl mo : Bool} {fuel steps : Nat} {k n : Int} {s : Value} {code : Int} {found : Bool} {xk xn : Int} {xs : Value} {qs : List (Tm × Value × Nat)} {M : Nat → Prop} {w : World} (h : StkAt g 12 56 (redCells rl mo fuel steps k n s code found xk xn xs) qs M w) (xk' xn' : Int) (xs' : Value) (f' : Bool) :
  StkAt g 12 56 (redCells rl mo fuel steps k n s code f' xk' xn' xs') qs M ((((w.setCell ⟨g, 9, none⟩ (.int .i64 xk')).setCell ⟨g, 10, none⟩ (.int .i64 xn')).setCell ⟨g, 11, none⟩ xs').setCell ⟨g, 8, none⟩ (.bool f')) := by
 have := (((h.setOther (j := 9) (by decide) (.int .i64 xk')).setOther (j := 10) (by decide) (.int .i64 xn')).setOther (j := 11) (by decide) xs').setOther (j := 8) (by decide) (.bool f')
 exact this
set_option maxRecDepth 100000 in
set_option maxHeartbeats 4000000 in
theorem seek_any (g : Nat) (rl mo : Bool) (fuel steps : Nat) (t : Tm) (ht : t.Valid) (code : Int) (found : Bool) (xk xn : Int) (xs s : Value) (qs : List (Tm × Value × Nat)) (M : Nat → Prop) (w : World)
  (hst : StkAt g 12 56 (redCells rl mo fuel steps t.kind t.num s code found xk xn xs) qs M w) (hs : SlX w M t.kids s) : Calls Tryz.prog 39 #[.pointer (some ⟨g, 0, none⟩)] w (SeekPost g rl mo fuel steps t code M w) := by
 obtain ⟨sa, cap, hc12, hst2⟩ := hst.reset
 obtain ⟨z, c0, c1, c2, c3, c4, c5, c6, c7, c8, c9, c10, c11, hf⟩ := red_cells hst
 have f12 := hf 12
 have hs2 : SlX (w.setCell ⟨g, 12, none⟩ (.slice sa 0 cap)) M t.kids s := hs.set (hst.own) _
 obtain ⟨a, c, rfl⟩ := hs.form
 have hm : M g := hst.own
 have hmlt := fun i hi => (hst.lt i hi).2
 have HS0 : Hid (Step M w (w.setCell ⟨g, 12, none⟩ (.slice sa 0 cap)) M) := tuck ((Step.refl hmlt).setOwn (p := ⟨g, 12, none⟩) hm _)
 have hfind := fun (W : World) (hW : View (mask (w.setCell ⟨g, 12, none⟩ (.slice sa 0 cap)) M) M W) (hstW : StkAt g 12 56 (redCells rl mo fuel steps t.kind t.num (.slice a t.kids.length c) code found xk xn xs) [] M W) => find_any (u := mask (w.setCell ⟨g, 12, none⟩ (.slice sa 0 cap)) M) g 12 _ _ rl mo t.kids t.kind t.num W [] M _ hW hstW (by rw [Tm.eta]; exact ht.1) (by have := (valid_bounds ht).2; simp; omega) hs2
 rw [Tm.eta] at hfind
 have HF : Hid (∀ (W : World), Below (w.setCell ⟨g, 12, none⟩ (.slice sa 0 cap)).heap.size (w.setCell ⟨g, 12, none⟩ (.slice sa 0 cap)) W → Calls Tryz.prog 36 #[.agg #[.bool rl, .bool mo], .agg #[.int .i64 t.kind, .int .i64 t.num, .slice a t.kids.length c], .pointer (some ⟨g, 12, none⟩)] W (FindPost (mask (w.setCell ⟨g, 12, none⟩ (.slice sa 0 cap)) M) g 12 56 (redCells rl mo fuel steps t.kind t.num (.slice a t.kids.length c) code found xk xn xs) [] M W t (.slice a t.kids.length c) (t.find rl mo))) := tuck fun W h => hfind W ((View.mask _ _).below h) (hst2.below h)
 have HS2 := tuck hs2
 have HML : Hid (∀ i, M i → i < (w.setCell ⟨g, 12, none⟩ (.slice sa 0 cap)).heap.size) := tuck fun i hi => (hst2.lt i hi).2
 have HVT := tuck ht
 obtain ⟨z', d0, d1, d2, d3, d4, d5, d6, d7, d8, d9, d10, d11, hf'⟩ := red_cells hst2
 clear hfind c0 c1 c2 c3 c4 c5 c6 c7 c8 c9 c10 c11 hs2
 go_enter Tryz.func39, Tryz.ntmps39
 go_wp2_with fail
 generalize w.setCell ⟨g, 12, none⟩ (.slice sa 0 cap) = W1 at *
 have HP0 : Hid (∀ (w4 : World) (M' : Nat → Prop) (f' : Bool) (yk yn : Int) (ys : Value) (qs' : List (Tm × Value × Nat)), Step M W1 w4 M' → StkAt g 12 56 (redCells rl mo fuel steps t.kind t.num (.slice a t.kids.length c) code found xk xn xs) qs' M' w4 → (∀ W', View (mask W1 M) M' W' → match t.find rl mo with
  | none => f' = false
  | some (p, x) => f' = true ∧ yk = x.kind ∧ yn = x.num ∧ SlX W' M' x.kids ys ∧ PassX W' M' p qs') → SeekPost g rl mo fuel steps t code M w (.returned (.tuple #[])) ((((w4.setCell ⟨g, 9, none⟩ (.int .i64 yk)).setCell ⟨g, 10, none⟩ (.int .i64 yn)).setCell ⟨g, 11, none⟩ ys).setCell ⟨g, 8, none⟩ (.bool f'))) := tuck fun w4 M' f' yk yn ys qs' h1 h2 h3 => by
  have hm' : M' g := h2.own
  have hv : View (mask W1 M) M' ((((w4.setCell ⟨g, 9, none⟩ (.int .i64 yk)).setCell ⟨g, 10, none⟩ (.int .i64 yn)).setCell ⟨g, 11, none⟩ ys).setCell ⟨g, 8, none⟩ (.bool f')) := (((((View.mask W1 M).step h1).set (q := ⟨g, 9, none⟩) hm' _).set (q := ⟨g, 10, none⟩) hm' _).set (q := ⟨g, 11, none⟩) hm' _).set (q := ⟨g, 8, none⟩) hm' _
  exact ⟨rfl, M', HS0.out.trans ((((h1.setOwn (p := ⟨g, 9, none⟩) hm' _).setOwn (p := ⟨g, 10, none⟩) hm' _).setOwn (p := ⟨g, 11, none⟩) hm' _).setOwn (p := ⟨g, 8, none⟩) hm' _), _, f', yk, yn, ys, qs', stk_found h2 yk yn ys f', SlX.of_view HS2.out hv, h3 _ hv⟩
 generalize SeekPost g rl mo fuel steps t code M w = post at *
 cases hfd : t.find rl mo with
 | none =>
  rw [hfd] at HF HP0
  go_region_with (go_at_call 36; refine (HF.out _ (Below.refl _ _).drew).mono ?_; rintro e w4 hp4; obtain ⟨M', hst4, rfl, hsk4⟩ := FindPost.no hp4; have HQ := tuck (HP0.out w4 M' false t.kind t.num (.slice a t.kids.length c) [] ((Step.of_below (Below.refl _ _).drew HML.out).trans hst4) hsk4 (fun _ _ => rfl)); obtain ⟨z4, e0, e1, e2, e3, e4, e5, e6, e7, e8, e9, e10, e11, ef⟩ := red_cells hsk4; clear hp4 hst4 hsk4)
  all_goals (try go_wp2_with fail)
  all_goals (go_end0; exact HQ.out)
 | some y =>
  obtain ⟨p, x⟩ := y
  rw [hfd] at HF HP0
  obtain ⟨hip, -, -, -, hpv⟩ := Tm.find_ok t p x hfd HVT.out
  have HFO : Hid (InPath p ∧ ∀ y ∈ p, y.1.Valid) := tuck ⟨hip, hpv⟩
  clear hip hpv
  go_region_with (go_at_call 36; refine (HF.out _ (Below.refl _ _).drew).mono ?_; rintro e w4 hp4; obtain ⟨M', hst4, sx, qs', rfl, hsx4, hsk4, hpas4⟩ := FindPost.yes hp4; obtain ⟨xa, xc, rfl⟩ := hsx4.form; have HQ := tuck (HP0.out w4 M' true x.kind x.num (.slice xa x.kids.length xc) qs' ((Step.of_below (Below.refl _ _).drew HML.out).trans hst4) hsk4 (fun W' hv => ⟨rfl, rfl, rfl, SlX.of_view hsx4 hv, Passed.toX (fun l v h => SlX.of_view h hv) HFO.out.1 HFO.out.2 hpas4⟩)); obtain ⟨z4, e0, e1, e2, e3, e4, e5, e6, e7, e8, e9, e10, e11, ef⟩ := red_cells hsk4; clear hp4 hst4 hsk4 hsx4 hpas4)
  all_goals (try go_wp2_with fail)
  all_goals (go_end0; exact HQ.out)
end Go.Proofs.YtlbikgnanabjgaaGreat
namespace Go.Proofs.YtlbikgnanabjgaaGreat
open Go.RowKit
theorem PassX.to {w w' : World} {X X' : Nat → Prop} (hk : ∀ l v, SlX w X l v → SlX w' X' l v) : ∀ {p : List (Tm × Nat)} {qs : List (Tm × Value × Nat)}, PassX w X p qs → PassX w' X' p qs
 | [], [], _ => trivial
 | (t, i) :: p, (t', s, i') :: q, h => ⟨h.1, h.2.1, h.2.2.1, h.2.2.2.1, hk _ _ h.2.2.2.2.1, PassX.to hk h.2.2.2.2.2⟩
 | [], _ :: _, h => by cases h
 | _ :: _, [], h => by cases h
theorem RedAt.to {g : Nat} {rl mo : Bool} {fuel steps : Nat} {t : Tm} {code code' : Int} {M : Nat → Prop} {w w' : World} (h : RedAt g rl mo fuel steps t code M w) (hk : ∀ l v, SlX w M l v → SlX w' M l v)
  (hs : ∀ (s : Value) (found : Bool) (xk xn : Int) (xs : Value) (qs : List (Tm × Value × Nat)), StkAt g 12 56 (redCells rl mo fuel steps t.kind t.num s code found xk xn xs) qs M w → StkAt g 12 56 (redCells rl mo fuel steps t.kind t.num s code' found xk xn xs) qs M w') : RedAt g rl mo fuel steps t code' M w' := by
 obtain ⟨s, found, xk, xn, xs, qs, h1, h2, h3⟩ := h
 refine ⟨s, found, xk, xn, xs, qs, hs _ _ _ _ _ _ h1, hk _ _ h2, ?_⟩
 cases hf : t.find rl mo with
 | none => rw [hf] at h3; exact h3
 | some y =>
  obtain ⟨p, x⟩ := y
  rw [hf] at h3
  exact ⟨h3.1, h3.2.1, h3.2.2.1, hk _ _ h3.2.2.2.1, h3.2.2.2.2.to hk⟩
theorem RedAt.own {g : Nat} {rl mo : Bool} {fuel steps : Nat} {t : Tm} {code : Int} {M : Nat → Prop} {w : World} (h : RedAt g rl mo fuel steps t code M w) : M g ∧ ∀ i, M i → g ≤ i ∧ i < w.heap.size := by
 obtain ⟨s, found, xk, xn, xs, qs, h1, h2, h3⟩ := h
 exact ⟨h1.own, h1.lt⟩
theorem RedAt.below {g : Nat} {rl mo : Bool} {fuel steps : Nat} {t : Tm} {code : Int} {M : Nat → Prop} {w w' : World} (h : RedAt g rl mo fuel steps t code M w) (hb : Below w.heap.size w w') : RedAt g rl mo fuel steps t code M w' :=
 h.to (fun _ _ h => h.below hb) fun _ _ _ _ _ _ h => h.below hb
theorem RedAt.code {g : Nat} {rl mo : Bool} {fuel steps : Nat} {t : Tm} {code : Int} {M : Nat → Prop} {w : World} (h : RedAt g rl mo fuel steps t code M w) (c : Int) : RedAt g rl mo fuel steps t c M (w.setCell ⟨g, 7, none⟩ (.int .i64 c)) :=
 h.to (fun _ _ h' => h'.set (q := ⟨g, 7, none⟩) h.own.1 _) fun _ _ _ _ _ _ h' => h'.setOther (j := 7) (by decide) (.int .i64 c)
theorem RedAt.facts {g : Nat} {rl mo : Bool} {fuel steps : Nat} {t : Tm} {code : Int} {M : Nat → Prop} {w : World} (h : RedAt g rl mo fuel steps t code M w) : g < w.heap.size ∧ w.cell? ⟨g, 2, none⟩ = some (.int .i64 fuel) ∧ w.cell? ⟨g, 3, none⟩ = some (.int .i64 steps) ∧ w.cell? ⟨g, 4, none⟩ = some (.int .i64 t.kind) ∧ w.cell? ⟨g, 5, none⟩ = some (.int .i64 t.num) ∧
  (∃ (a : Option Addr) (c : Nat), w.cell? ⟨g, 6, none⟩ = some (.slice a t.kids.length c) ∧ SlX w M t.kids (.slice a t.kids.length c)) ∧ w.cell? ⟨g, 7, none⟩ = some (.int .i64 code) ∧ w.cell? ⟨g, 8, none⟩ = some (.bool (t.find rl mo).isSome) ∧ ∀ i, w.frozen? ⟨g, i, none⟩ = false := by
 obtain ⟨s, found, xk, xn, xs, qs, h1, h2, h3⟩ := h
 obtain ⟨a, c, rfl⟩ := h2.form
 obtain ⟨z, c0, c1, c2, c3, c4, c5, c6, c7, c8, c9, c10, c11, hf⟩ := red_cells h1
 refine ⟨z, c2, c3, c4, c5, ⟨a, c, c6, h2⟩, c7, ?_, hf⟩
 cases hf : t.find rl mo with
 | none => rw [hf] at h3; rw [c8, h3]; rfl
 | some y =>
  obtain ⟨p, x⟩ := y
  rw [hf] at h3
  rw [c8, h3.1]
  rfl
def StartPost (rl mo : Bool) (fuel : Nat) (t : Tm) (w : World) (e : Ending) (w' : World) : Prop := ∃ (g : Nat) (M : Nat → Prop), e = .returned (.pointer (some ⟨g, 0, none⟩)) ∧ Below w.heap.size w w' ∧ (∀ i, M i → w.heap.size ≤ i) ∧ RedAt g rl mo fuel 0 t 0 M w'
set_option maxRecDepth 100000 in
set_option maxHeartbeats 4000000 in
theorem start_any (rl mo : Bool) (fuel : Nat) (t : Tm) (ht : t.Valid) (w : World) (s : Value) (hs : SlIn w 0 t.kids s) : Calls Tryz.prog 25 #[.agg #[.int .i64 t.kind, .int .i64 t.num, s], .int .i64 fuel, .agg #[.bool rl, .bool mo]] w (StartPost rl mo fuel t w) := by
 obtain ⟨a, c, rfl⟩ := hs.form
 have hst : StkAt (w.heap.size + 2) 12 56 (redCells rl mo fuel 0 t.kind t.num (.slice a t.kids.length c) 0 false 0 0 (.slice none 0 0)) [] (fun i => i = w.heap.size + 2 ∨ (Value.slice none 0 0).ownBlock = some i) (((w.alloc (.cells #[.int .i64 t.kind, .int .i64 t.num, .slice a t.kids.length c] 25)).alloc (.cells #[.bool rl, .bool mo] 43)).alloc (.cells #[.bool rl, .bool mo, .int .i64 fuel, .int .i64 0, .int .i64 t.kind, .int .i64 t.num, .slice a t.kids.length c, .int .i64 0, .bool false, .int .i64 0, .int .i64 0, .slice none 0 0, .slice none 0 0] 56)) :=
  ⟨by simp, .slice none 0 0, by have := heap_new ((w.alloc (.cells #[.int .i64 t.kind, .int .i64 t.num, .slice a t.kids.length c] 25)).alloc (.cells #[.bool rl, .bool mo] 43)) (.cells #[.bool rl, .bool mo, .int .i64 fuel, .int .i64 0, .int .i64 t.kind, .int .i64 t.num, .slice a t.kids.length c, .int .i64 0, .bool false, .int .i64 0, .int .i64 0, .slice none 0 0, .slice none 0 0] 56); simpa [redCells] using this, by simp [redCells], World.ownsRow_nil _ _ _ _, rfl⟩
 have hb3 := below3 w (.cells #[.int .i64 t.kind, .int .i64 t.num, .slice a t.kids.length c] 25) (.cells #[.bool rl, .bool mo] 43) (.cells #[.bool rl, .bool mo, .int .i64 fuel, .int .i64 0, .int .i64 t.kind, .int .i64 t.num, .slice a t.kids.length c, .int .i64 0, .bool false, .int .i64 0, .int .i64 0, .slice none 0 0, .slice none 0 0] 56)
 have hM : ∀ i, (i = w.heap.size + 2 ∨ (Value.slice none 0 0).ownBlock = some i) → w.heap.size ≤ i := fun i hi => by
  rcases hi with rfl | hi
  ·omega
  ·cases hi
 have hsx : SlX (((w.alloc (.cells #[.int .i64 t.kind, .int .i64 t.num, .slice a t.kids.length c] 25)).alloc (.cells #[.bool rl, .bool mo] 43)).alloc (.cells #[.bool rl, .bool mo, .int .i64 fuel, .int .i64 0, .int .i64 t.kind, .int .i64 t.num, .slice a t.kids.length c, .int .i64 0, .bool false, .int .i64 0, .int .i64 0, .slice none 0 0, .slice none 0 0] 56)) (fun i => i = w.heap.size + 2 ∨ (Value.slice none 0 0).ownBlock = some i) t.kids (.slice a t.kids.length c) := (SlX.of_view hs (View.self hM)).below hb3
 have HSK := tuck (seek_any _ rl mo fuel 0 t ht 0 false 0 0 _ _ _ _ _ hst hsx)
 have HP : Hid (∀ w', SeekPost (w.heap.size + 2) rl mo fuel 0 t 0 (fun i => i = w.heap.size + 2 ∨ (Value.slice none 0 0).ownBlock = some i) (((w.alloc (.cells #[.int .i64 t.kind, .int .i64 t.num, .slice a t.kids.length c] 25)).alloc (.cells #[.bool rl, .bool mo] 43)).alloc (.cells #[.bool rl, .bool mo, .int .i64 fuel, .int .i64 0, .int .i64 t.kind, .int .i64 t.num, .slice a t.kids.length c, .int .i64 0, .bool false, .int .i64 0, .int .i64 0, .slice none 0 0, .slice none 0 0] 56)) (.returned (.tuple #[])) w' → StartPost rl mo fuel t w (.returned (.pointer (some ⟨w.heap.size + 2, 0, none⟩))) w') := tuck fun w' h => by
  obtain ⟨-, M', h1, h2⟩ := h
  exact ⟨_, M', rfl, h1.below hb3 hb3.size hM, h1.ge hb3.size hM, h2⟩
 generalize StartPost rl mo fuel t w = post at *
 clear hs hst hb3 hM hsx
 go_enter Tryz.func25, Tryz.ntmps25
 go_wp2_with fail
 refine HSK.out.mono ?_
 rintro e w4 hp4
 obtain rfl := hp4.1
 have HQ := tuck (HP.out _ hp4)
 clear hp4 HP HSK
 go_wp2_with fail
 exact HQ.out
end Go.Proofs.YtlbikgnanabjgaaGreat
