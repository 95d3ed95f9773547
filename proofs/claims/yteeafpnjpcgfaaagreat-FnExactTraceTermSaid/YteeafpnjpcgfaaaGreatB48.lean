/-
  RedI.
-/
import Derived.Test.YteeafpnjpcgfaaaGreatB47
namespace Go.Proofs.YteeafpnjpcgfaaaGreat
open Go.RowKit
def Or2 (M N : Nat → Prop) : Nat → Prop := fun i => M i ∨ N i
theorem View.first {u w : World} {M N : Nat → Prop} (h : View u (Or2 M N) w) : View u M w := ⟨h.rd, fun p x hc hm => h.off p x hc (Or.inl hm)⟩
theorem Step.or {M M' N : Nat → Prop} {w w' : World} (h : Step M w w' M') (hN : ∀ i, N i → i < w.heap.size) : Step (Or2 M N) w w' (Or2 M' N) :=
 ⟨h.os, h.tape, h.output, h.size, fun i hi hn => h.block i hi (fun hm => hn (Or.inl hm)), fun i hi hm => hm.elim (fun hm => Or.inl (h.grow i hi hm)) Or.inr, fun i hm => hm.elim (fun hm => h.lt i hm) (fun hm => Nat.lt_of_lt_of_le (hN i hm) h.size)⟩
def RedN (g : Nat) (rl mo : Bool) (fuel steps : Nat) (t : Tm) (code : Int) (M N : Nat → Prop) (w : World) : Prop :=
 ∃ (s : Value) (found : Bool) (xk xn : Int) (xs : Value) (qs : List (Tm × Value × Nat)), StkAt g 12 139 (redCells rl mo fuel steps t.kind t.num s code found xk xn xs) qs M w ∧ SlX w (Or2 M N) t.kids s ∧
  match t.find rl mo with
  | none => found = false
  | some (p, x) => found = true ∧ xk = x.kind ∧ xn = x.num ∧ SlX w (Or2 M N) x.kids xs ∧ PassX w (Or2 M N) p qs
def SeekN (g : Nat) (rl mo : Bool) (fuel steps : Nat) (t : Tm) (code : Int) (M N : Nat → Prop) (w : World) (e : Ending) (w' : World) : Prop := e = .returned (.tuple #[]) ∧ ∃ M', Step M w w' M' ∧ RedN g rl mo fuel steps t code M' N w'
set_option maxRecDepth 100000 in
set_option maxHeartbeats 4000000 in
theorem seekN_any (g : Nat) (rl mo : Bool) (fuel steps : Nat) (t : Tm) (ht : t.Valid) (code : Int) (found : Bool) (xk xn : Int) (xs s : Value) (qs : List (Tm × Value × Nat)) (M N : Nat → Prop) (w : World) (hN : ∀ i, N i → i < w.heap.size)
  (hst : StkAt g 12 139 (redCells rl mo fuel steps t.kind t.num s code found xk xn xs) qs M w) (hs : SlX w (Or2 M N) t.kids s) : Calls Tryz.prog 105 #[.pointer (some ⟨g, 0, none⟩)] w (SeekN g rl mo fuel steps t code M N w) := by
 obtain ⟨sa, cap, hc12, hst2⟩ := hst.reset
 obtain ⟨z, c0, c1, c2, c3, c4, c5, c6, c7, c8, c9, c10, c11, hf⟩ := red_cells hst
 have f12 := hf 12
 have hs2 : SlX (w.setCell ⟨g, 12, none⟩ (.slice sa 0 cap)) (Or2 M N) t.kids s := hs.set (Or.inl hst.own) _
 obtain ⟨a, c, rfl⟩ := hs.form
 have hm : M g := hst.own
 have hmlt := fun i hi => (hst.lt i hi).2
 have HS0 : Hid (Step M w (w.setCell ⟨g, 12, none⟩ (.slice sa 0 cap)) M) := tuck ((Step.refl hmlt).setOwn (p := ⟨g, 12, none⟩) hm _)
 have hfind := fun (W : World) (hW : View (mask (w.setCell ⟨g, 12, none⟩ (.slice sa 0 cap)) (Or2 M N)) M W) (hstW : StkAt g 12 139 (redCells rl mo fuel steps t.kind t.num (.slice a t.kids.length c) code found xk xn xs) [] M W) => find_any (u := mask (w.setCell ⟨g, 12, none⟩ (.slice sa 0 cap)) (Or2 M N)) g 12 _ _ rl mo t.kids t.kind t.num W [] M _ hW hstW (by rw [Tm.eta]; exact ht.1) (by have := (valid_bounds ht).2; simp; omega) hs2
 rw [Tm.eta] at hfind
 have HF : Hid (∀ (W : World), Below (w.setCell ⟨g, 12, none⟩ (.slice sa 0 cap)).heap.size (w.setCell ⟨g, 12, none⟩ (.slice sa 0 cap)) W → Calls Tryz.prog 111 #[.agg #[.bool rl, .bool mo], .agg #[.int .i64 t.kind, .int .i64 t.num, .slice a t.kids.length c], .pointer (some ⟨g, 12, none⟩)] W (FindPost (mask (w.setCell ⟨g, 12, none⟩ (.slice sa 0 cap)) (Or2 M N)) g 12 139 (redCells rl mo fuel steps t.kind t.num (.slice a t.kids.length c) code found xk xn xs) [] M W t (.slice a t.kids.length c) (t.find rl mo))) := tuck fun W h => hfind W ((View.mask _ _).below h).first (hst2.below h)
 have HS2 := tuck hs2
 have HML : Hid (∀ i, M i → i < (w.setCell ⟨g, 12, none⟩ (.slice sa 0 cap)).heap.size) := tuck fun i hi => (hst2.lt i hi).2
 have HNL : Hid (∀ i, N i → i < (w.setCell ⟨g, 12, none⟩ (.slice sa 0 cap)).heap.size) := tuck fun i hi => by have := hN i hi; simpa [World.setCell] using this
 have HVT := tuck ht
 obtain ⟨z', d0, d1, d2, d3, d4, d5, d6, d7, d8, d9, d10, d11, hf'⟩ := red_cells hst2
 clear hfind c0 c1 c2 c3 c4 c5 c6 c7 c8 c9 c10 c11 hs2
 go_enter Tryz.func105, Tryz.ntmps105
 go_wp2_with fail
 generalize w.setCell ⟨g, 12, none⟩ (.slice sa 0 cap) = W1 at *
 have HP0 : Hid (∀ (w4 : World) (M' : Nat → Prop) (f' : Bool) (yk yn : Int) (ys : Value) (qs' : List (Tm × Value × Nat)), Step M W1 w4 M' → StkAt g 12 139 (redCells rl mo fuel steps t.kind t.num (.slice a t.kids.length c) code found xk xn xs) qs' M' w4 → (∀ W', View (mask W1 (Or2 M N)) (Or2 M' N) W' → match t.find rl mo with
  | none => f' = false
  | some (p, x) => f' = true ∧ yk = x.kind ∧ yn = x.num ∧ SlX W' (Or2 M' N) x.kids ys ∧ PassX W' (Or2 M' N) p qs') → SeekN g rl mo fuel steps t code M N w (.returned (.tuple #[])) ((((w4.setCell ⟨g, 9, none⟩ (.int .i64 yk)).setCell ⟨g, 10, none⟩ (.int .i64 yn)).setCell ⟨g, 11, none⟩ ys).setCell ⟨g, 8, none⟩ (.bool f'))) := tuck fun w4 M' f' yk yn ys qs' h1 h2 h3 => by
  have hm' : M' g := h2.own
  have hv : View (mask W1 (Or2 M N)) (Or2 M' N) ((((w4.setCell ⟨g, 9, none⟩ (.int .i64 yk)).setCell ⟨g, 10, none⟩ (.int .i64 yn)).setCell ⟨g, 11, none⟩ ys).setCell ⟨g, 8, none⟩ (.bool f')) := (((((View.mask W1 (Or2 M N)).step (h1.or HNL.out)).set (q := ⟨g, 9, none⟩) (Or.inl hm') _).set (q := ⟨g, 10, none⟩) (Or.inl hm') _).set (q := ⟨g, 11, none⟩) (Or.inl hm') _).set (q := ⟨g, 8, none⟩) (Or.inl hm') _
  exact ⟨rfl, M', HS0.out.trans ((((h1.setOwn (p := ⟨g, 9, none⟩) hm' _).setOwn (p := ⟨g, 10, none⟩) hm' _).setOwn (p := ⟨g, 11, none⟩) hm' _).setOwn (p := ⟨g, 8, none⟩) hm' _), _, f', yk, yn, ys, qs', stk_found h2 yk yn ys f', SlX.of_view HS2.out hv, h3 _ hv⟩
 generalize SeekN g rl mo fuel steps t code M N w = post at *
 cases hfd : t.find rl mo with
 | none =>
  rw [hfd] at HF HP0
  go_region_with (go_at_call 111; refine (HF.out _ (Below.refl _ _).drew).mono ?_; rintro e w4 hp4; obtain ⟨M', hst4, rfl, hsk4⟩ := FindPost.no hp4; have HQ := tuck (HP0.out w4 M' false t.kind t.num (.slice a t.kids.length c) [] ((Step.of_below (Below.refl _ _).drew HML.out).trans hst4) hsk4 (fun _ _ => rfl)); obtain ⟨z4, e0, e1, e2, e3, e4, e5, e6, e7, e8, e9, e10, e11, ef⟩ := red_cells hsk4; clear hp4 hst4 hsk4)
  all_goals (try go_wp2_with fail)
  all_goals (go_end0; exact HQ.out)
 | some y =>
  obtain ⟨p, x⟩ := y
  rw [hfd] at HF HP0
  obtain ⟨hip, -, -, -, hpv⟩ := Tm.find_ok t p x hfd HVT.out
  have HFO : Hid (InPath p ∧ ∀ y ∈ p, y.1.Valid) := tuck ⟨hip, hpv⟩
  clear hip hpv
  go_region_with (go_at_call 111; refine (HF.out _ (Below.refl _ _).drew).mono ?_; rintro e w4 hp4; obtain ⟨M', hst4, sx, qs', rfl, hsx4, hsk4, hpas4⟩ := FindPost.yes hp4; obtain ⟨xa, xc, rfl⟩ := hsx4.form; have HQ := tuck (HP0.out w4 M' true x.kind x.num (.slice xa x.kids.length xc) qs' ((Step.of_below (Below.refl _ _).drew HML.out).trans hst4) hsk4 (fun W' hv => ⟨rfl, rfl, rfl, SlX.of_view hsx4 hv, Passed.toX (fun l v h => SlX.of_view h hv) HFO.out.1 HFO.out.2 hpas4⟩)); obtain ⟨z4, e0, e1, e2, e3, e4, e5, e6, e7, e8, e9, e10, e11, ef⟩ := red_cells hsk4; clear hp4 hst4 hsk4 hsx4 hpas4)
  all_goals (try go_wp2_with fail)
  all_goals (go_end0; exact HQ.out)
end Go.Proofs.YteeafpnjpcgfaaaGreat
