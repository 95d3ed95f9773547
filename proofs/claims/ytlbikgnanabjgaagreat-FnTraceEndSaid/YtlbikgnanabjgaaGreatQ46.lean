/-
  RedI, TextB, StepK, TrV.
-/
import Derived.Test.YtlbikgnanabjgaaGreatQ24
import Derived.Test.YtlbikgnanabjgaaGreatQ34
import Derived.Test.YtlbikgnanabjgaaGreatQ36
import Derived.Test.YtlbikgnanabjgaaGreatQ37
import Derived.Test.YtlbikgnanabjgaaGreatQ45
namespace Go.Proofs.YtlbikgnanabjgaaGreat
open Go.RowKit
set_option maxRecDepth 100000 in
set_option maxHeartbeats 1600000 in
theorem stepTI_any (t : Tm) (w : World) (v : Value) (h : TmIn w 0 t v) : Calls Tryz.prog 9 #[v] w (CodePost w (stepOut false false t).2 (stepOut false false t).1) := by
 obtain ⟨s, rfl, hs⟩ := h
 obtain ⟨a, c, rfl⟩ := hs.form
 have hb2 := below2 w (.cells #[.int .i64 t.kind, .int .i64 t.num, .slice a t.kids.length c] 25) (.cells #[.int .i64 0, .int .i64 0, .slice none 0 0] 25)
 have HV0 := tuck ((VarAt.new w t.kind t.num (.slice a t.kids.length c)).below (below1 _ (.cells #[.int .i64 0, .int .i64 0, .slice none 0 0] 25)))
 have HV1 := tuck (var_new1 w (.cells #[.int .i64 t.kind, .int .i64 t.num, .slice a t.kids.length c] 25) 0 0 (.slice none 0 0))
 have HB2 := tuck hb2
 have HSO : Hid (∀ W, Below w.heap.size w W → Calls Tryz.prog 21 #[.agg #[.int .i64 t.kind, .int .i64 t.num, .slice a t.kids.length c], .agg #[.bool false, .bool false]] W (CodePost W (stepOut false false t).2 (stepOut false false t).1)) := tuck fun W h => stepOnce_any false false t W _ (hs.below h)
 clear hs hb2
 have HP : Hid (∀ w' s F, Below w.heap.size w w' → SlOwn w' (stepOut false false t).1.kids s F → F.Nodup → (∀ g ∈ F, w.heap.size ≤ g ∧ g < w'.heap.size) → CodePost w (stepOut false false t).2 (stepOut false false t).1 (.returned (.tuple #[.agg #[.int .i64 (stepOut false false t).1.kind, .int .i64 (stepOut false false t).1.num, s], .int .i64 (stepOut false false t).2])) w') := tuck fun w' s F h1 h2 h3 h4 => CodePost.made h1 h2 h3 h4
 generalize CodePost w (stepOut false false t).2 (stepOut false false t).1 = post at *
 generalize (stepOut false false t).1 = T at *
 generalize (stepOut false false t).2 = cc at *
 go_enter Tryz.func9, Tryz.ntmps9
 go_wp2_with fail
 generalize (w.alloc (.cells #[.int .i64 t.kind, .int .i64 t.num, .slice a t.kids.length c] 25)).alloc (.cells #[.int .i64 0, .int .i64 0, .slice none 0 0] 25) = W2 at *
 obtain ⟨z0, a0, a1, a2, -⟩ := HV0.out.facts
 go_region_with (first | (go_at_call 22; refine (outside_any _).mono ?_; rintro e w3 ⟨rfl, hb3⟩; have HB3 : Hid (Below W2.heap.size W2 w3) := tuck (bAfter (Below.refl _ _).drew hb3); obtain ⟨z3, d0, d1, d2, -⟩ := (HV0.out.below HB3.out).facts; clear hb3) | (go_at_call 21; refine (HSO.out _ (bAfter HB2.out HB3.out)).mono ?_; rintro e w4 ⟨hb4, v4, rfl, s4, F, rfl, hs4, hn4, hF4⟩; obtain ⟨ta, tc, rfl⟩ := hs4.form; obtain ⟨zr, r0, r1, r2, rf⟩ := ((HV1.out.below HB3.out).below hb4).facts; have HB4 := tuck (bAfter (bAfter HB2.out HB3.out) hb4); have HS4 := tuck hs4; have HN4 := tuck hn4; have HF4 := tuck hF4; have HZ : Hid (w.heap.size + 1 < w3.heap.size) := tuck (HV1.out.below HB3.out).facts.1; clear hb4 hs4 hn4 hF4))
 all_goals (try go_wp2_with fail)
 all_goals
  refine bodyPost_ret (v := .tuple #[.agg #[.int .i64 T.kind, .int .i64 T.num, .slice ta T.kids.length tc], .int .i64 cc]) (by simp [results, Tryz.results9, go_sem, *]) rfl (HP.out _ _ F ?_ ?_ HN4.out (fun g hg => ?_))
  ·exact bSet3 HB4.out (Nat.le_succ _) _ _ _ _ _ _
  ·exact HS4.out.set3 (fun h => by have := (HF4.out _ h).1; have := HZ.out; omega) _ _ _ _ _ _
  ·rw [size_set3]
   have := HF4.out g hg
   have := HZ.out
   omega
end Go.Proofs.YtlbikgnanabjgaaGreat
namespace Go.Proofs.YtlbikgnanabjgaaGreat
open Go.RowKit
def sumS : List ByteArray → Nat
 | [] => 0
 | s :: L => s.size + sumS L
theorem kidS_le : ∀ (L : List ByteArray) (i : Nat), (kidS L i).size ≤ sumS L
 | [], i => by simp [kidS, ByteArray.size]
 | s :: L, 0 => by rw [sumS]; show s.size ≤ _; omega
 | s :: L, i + 1 => by
  have := kidS_le L i
  rw [sumS]
  show (kidS L i).size ≤ _
  omega
theorem kidS_two : ∀ (L : List ByteArray), (kidS L 0).size + (kidS L 1).size ≤ sumS L
 | [] => by simp [kidS, ByteArray.size]
 | [s] => by rw [sumS, sumS]; show s.size + (ByteArray.mk #[]).size ≤ _; have : (ByteArray.mk #[]).size = 0 := rfl; omega
 | s :: t :: L => by rw [sumS, sumS]; show s.size + t.size ≤ _; omega
theorem sumS_take : ∀ (L : List ByteArray) (q : Nat), sumS (L.take (q + 1)) = sumS (L.take q) + (kidS L q).size
 | [], q => by simp [kidS, sumS, ByteArray.size]
 | s :: L, 0 => by simp [sumS]; rfl
 | s :: L, q + 1 => by
  have := sumS_take L q
  rw [List.take_succ_cons, List.take_succ_cons, sumS, sumS, this]
  show _ = s.size + _ + (kidS L q).size
  omega
theorem sumS_take_le : ∀ (L : List ByteArray) (q : Nat), sumS (L.take q) ≤ sumS L
 | [], q => by simp
 | s :: L, 0 => by simp [sumS]
 | s :: L, q + 1 => by
  have := sumS_take_le L q
  rw [List.take_succ_cons, sumS, sumS]
  omega
theorem joinN_le (L : List ByteArray) : ∀ q, (joinN L q).size ≤ sumS (L.take q) + q
 | 0 => by rw [joinN]; simp [ByteArray.size]
 | q + 1 => by
  have h1 := joinN_le L q
  have h2 := sumS_take L q
  have h3 : (ByteArray.mk #[44]).size = 1 := rfl
  rw [joinN]
  split <;> simp only [ByteArray.size_append, h3] <;> omega
theorem ite_le_of (c : Prop) [Decidable c] (a b m : Nat) (h1 : a ≤ m) (h2 : b ≤ m) : (if c then a else b) ≤ m := by split <;> assumption
mutual
theorem Tm.txt_size : ∀ t : Tm, t.txt.size ≤ 8 * t.size
 | .mk k n l => by
  have hs := txtL_sum l
  have h0 := kidS_le (txtL l) 0
  have h1 := kidS_two (txtL l)
  have h3 := joinN_le (txtL l) 3
  have h4 := joinN_le (txtL l) 4
  have h5 := sumS_take_le (txtL l) 3
  have h6 := sumS_take_le (txtL l) 4
  have h2 := decS_size n.toNat
  have e1 : ∀ a : UInt8, (ByteArray.mk #[a]).size = 1 := fun _ => rfl
  have e2 : ∀ a b : UInt8, (ByteArray.mk #[a, b]).size = 2 := fun _ _ => rfl
  rw [Tm.txt, Tm.size]
  simp only [txtOf, apply_ite ByteArray.size, ByteArray.size_append, e1, e2]
  repeat' (first | refine ite_le_of _ _ _ _ ?_ ?_ | omega)
theorem txtL_sum : ∀ l : List Tm, sumS (txtL l) ≤ 8 * sizes l
 | [] => by rw [txtL, sumS]; omega
 | t :: l => by
  have h1 := Tm.txt_size t
  have h2 := txtL_sum l
  rw [txtL, sumS, sizes]
  omega
end
set_option maxRecDepth 100000 in
set_option maxHeartbeats 1600000 in
theorem list_any (l : List Tm) (hl : l.length ≤ 4) (hsz : sizes l ≤ 1000000)
  (hrec : ∀ i (hi : i < l.length) (w' : World) (s : Value), SlIn w' 0 l[i].kids s → Calls Tryz.prog 74 #[.agg #[.int .i64 l[i].kind, .int .i64 l[i].num, s]] w' (StrPost w' l[i].txt))
  (w : World) (v : Value) (hs : SlIn w 0 l v) : Calls Tryz.prog 83 #[v] w (StrPost w (joinN (txtL l) l.length)) := by
 obtain ⟨a, cap, b, o, rfl, hlm, hp, hc⟩ := hs.open
 have HREC := tuck hrec
 have HC := tuck hc
 have HPP := tuck hp
 have HP : Hid (∀ s w', s = joinN (txtL l) l.length → Below w.heap.size w w' → StrPost w (joinN (txtL l) l.length) (.returned (.string s)) w') := tuck fun s w' h hb => by rw [h]; exact ⟨rfl, hb⟩
 generalize StrPost w (joinN (txtL l) l.length) = post at *
 have HSUM := tuck (txtL_sum l)
 have HSZ := tuck hsz
 clear hs hrec hc hp hsz
 go_enter Tryz.func83, Tryz.ntmps83
 go_wp2_with fail
 go_loopw [3, 4] (fun out i wr => ∃ q : Nat, q ≤ l.length ∧ i = .int .i64 q ∧ out = .string (joinN (txtL l) q) ∧ Below w.heap.size w wr) (fun _ i _ => l.length - (intOf i).toNat)
 case atStart => exact ⟨0, Nat.zero_le _, rfl, rfl, Below.refl _ _⟩
 case round =>
  obtain ⟨q, hq, rfl, rfl, hb⟩ := hrel
  have HB := tuck hb
  clear hb
  by_cases hlt : q < l.length
  ·have hlti : decide ((q : Int) < (l.length : Int)) = true := decide_eq_true (by omega)
   have hlti2 : (q : Int) < (l.length : Int) := by omega
   obtain ⟨rfl, _, hbw⟩ := HPP.out (by intro e; rw [e] at hlt; simp at hlt)
   obtain ⟨s, c0, c1, c2, hs⟩ := HC.out q hlt
   obtain ⟨sa, sc, rfl⟩ := hs.form
   have hjs : (joinN (txtL l) q).size ≤ 8000100 := by
    have h1 := joinN_le (txtL l) q
    have h2 := sumS_take_le (txtL l) q
    have h3 := HSUM.out
    have h4 := HSZ.out
    omega
   have hts : l[q].txt.size ≤ 8000100 := by
    have h1 := l[q].txt_size
    have h2 := size_get_le l q hlt
    have h4 := HSZ.out
    omega
   have HJ : Hid (joinN (txtL l) (q + 1) = (if 0 < q then joinN (txtL l) q ++ ByteArray.mk #[44] else joinN (txtL l) q) ++ l[q].txt) := tuck (by rw [joinN, kidS_txt l q hlt])
   have HK := tuck (fun w' s => HREC.out q hlt w' s)
   have HS := tuck hs
   have hbr : b < wr.heap.size := Nat.lt_of_lt_of_le hbw HB.out.size
   replace c0 := (HB.out.cell (p := ⟨b, o + q * 3, none⟩) hbw).trans c0
   replace c1 := (HB.out.cell (p := ⟨b, o + q * 3 + 1, none⟩) hbw).trans c1
   replace c2 := (HB.out.cell (p := ⟨b, o + q * 3 + 2, none⟩) hbw).trans c2
   clear hs
   generalize l[q] = T at *
   obtain ⟨J, hJ⟩ : ∃ J, J = joinN (txtL l) q := ⟨_, rfl⟩
   obtain ⟨X, hX⟩ : ∃ X, X = T.txt := ⟨_, rfl⟩
   rw [← hJ] at HJ hjs ⊢
   rw [← hX] at HJ HK hts
   clear hJ hX
   have z1 : ¬ (9223372036854775807 < J.size + 1) := by omega
   have z2 : ¬ (9223372036854775807 < J.size + 1 + X.size) := by omega
   have z3 : ¬ (9223372036854775807 < J.size + X.size) := by omega
   clear hjs hts
   by_cases hq0 : 0 < q
   ·have hq0i : decide ((0 : Int) < (q : Int)) = true := decide_eq_true (by omega)
    have HJJ : Hid (joinN (txtL l) (q + 1) = J ++ ByteArray.mk #[44] ++ X) := tuck (by rw [HJ.out, if_pos hq0])
    clear HJ
    go_wp2_with fail
    refine (HK.out _ _ (HS.out.below HB.out)).mono ?_
    rintro e w2 ⟨rfl, hb2⟩
    have HB2 := tuck (bAfter HB.out hb2)
    clear hb2
    go_wp2_with fail
    go_roundw
    case rel => exact ⟨q + 1, by omega, by go_num, by rw [HJJ.out], HB2.out⟩
    case measure => simp [intOf]; omega
   ·have hq0i : decide ((0 : Int) < (q : Int)) = false := decide_eq_false (by omega)
    have HJJ : Hid (joinN (txtL l) (q + 1) = J ++ X) := tuck (by rw [HJ.out, if_neg hq0])
    clear HJ
    go_wp2_with fail
    refine (HK.out _ _ (HS.out.below HB.out)).mono ?_
    rintro e w2 ⟨rfl, hb2⟩
    have HB2 := tuck (bAfter HB.out hb2)
    clear hb2
    go_wp2_with fail
    go_roundw
    case rel => exact ⟨q + 1, by omega, by go_num, by rw [HJJ.out], HB2.out⟩
    case measure => simp [intOf]; omega
  ·have hlti : decide ((q : Int) < (l.length : Int)) = false := decide_eq_false (by omega)
   have hlti2 : ¬ (q : Int) < (l.length : Int) := by omega
   obtain rfl : q = l.length := by omega
   go_wp2_with fail
   exact HP.out _ _ rfl HB.out
end Go.Proofs.YtlbikgnanabjgaaGreat
namespace Go.Proofs.YtlbikgnanabjgaaGreat
open Go.RowKit
def Or2 (M N : Nat → Prop) : Nat → Prop := fun i => M i ∨ N i
theorem View.first {u w : World} {M N : Nat → Prop} (h : View u (Or2 M N) w) : View u M w := ⟨h.rd, fun p x hc hm => h.off p x hc (Or.inl hm)⟩
theorem Step.or {M M' N : Nat → Prop} {w w' : World} (h : Step M w w' M') (hN : ∀ i, N i → i < w.heap.size) : Step (Or2 M N) w w' (Or2 M' N) :=
 ⟨h.os, h.tape, h.output, h.size, fun i hi hn => h.block i hi (fun hm => hn (Or.inl hm)), fun i hi hm => hm.elim (fun hm => Or.inl (h.grow i hi hm)) Or.inr, fun i hm => hm.elim (fun hm => h.lt i hm) (fun hm => Nat.lt_of_lt_of_le (hN i hm) h.size)⟩
def RedN (g : Nat) (rl mo : Bool) (fuel steps : Nat) (t : Tm) (code : Int) (M N : Nat → Prop) (w : World) : Prop :=
 ∃ (s : Value) (found : Bool) (xk xn : Int) (xs : Value) (qs : List (Tm × Value × Nat)), StkAt g 12 56 (redCells rl mo fuel steps t.kind t.num s code found xk xn xs) qs M w ∧ SlX w (Or2 M N) t.kids s ∧
  match t.find rl mo with
  | none => found = false
  | some (p, x) => found = true ∧ xk = x.kind ∧ xn = x.num ∧ SlX w (Or2 M N) x.kids xs ∧ PassX w (Or2 M N) p qs
def SeekN (g : Nat) (rl mo : Bool) (fuel steps : Nat) (t : Tm) (code : Int) (M N : Nat → Prop) (w : World) (e : Ending) (w' : World) : Prop := e = .returned (.tuple #[]) ∧ ∃ M', Step M w w' M' ∧ RedN g rl mo fuel steps t code M' N w'
set_option maxRecDepth 100000 in
set_option maxHeartbeats 4000000 in
theorem seekN_any (g : Nat) (rl mo : Bool) (fuel steps : Nat) (t : Tm) (ht : t.Valid) (code : Int) (found : Bool) (xk xn : Int) (xs s : Value) (qs : List (Tm × Value × Nat)) (M N : Nat → Prop) (w : World) (hN : ∀ i, N i → i < w.heap.size)
  (hst : StkAt g 12 56 (redCells rl mo fuel steps t.kind t.num s code found xk xn xs) qs M w) (hs : SlX w (Or2 M N) t.kids s) : Calls Tryz.prog 39 #[.pointer (some ⟨g, 0, none⟩)] w (SeekN g rl mo fuel steps t code M N w) := by
 obtain ⟨sa, cap, hc12, hst2⟩ := hst.reset
 obtain ⟨z, c0, c1, c2, c3, c4, c5, c6, c7, c8, c9, c10, c11, hf⟩ := red_cells hst
 have f12 := hf 12
 have hs2 : SlX (w.setCell ⟨g, 12, none⟩ (.slice sa 0 cap)) (Or2 M N) t.kids s := hs.set (Or.inl hst.own) _
 obtain ⟨a, c, rfl⟩ := hs.form
 have hm : M g := hst.own
 have hmlt := fun i hi => (hst.lt i hi).2
 have HS0 : Hid (Step M w (w.setCell ⟨g, 12, none⟩ (.slice sa 0 cap)) M) := tuck ((Step.refl hmlt).setOwn (p := ⟨g, 12, none⟩) hm _)
 have hfind := fun (W : World) (hW : View (mask (w.setCell ⟨g, 12, none⟩ (.slice sa 0 cap)) (Or2 M N)) M W) (hstW : StkAt g 12 56 (redCells rl mo fuel steps t.kind t.num (.slice a t.kids.length c) code found xk xn xs) [] M W) => find_any (u := mask (w.setCell ⟨g, 12, none⟩ (.slice sa 0 cap)) (Or2 M N)) g 12 _ _ rl mo t.kids t.kind t.num W [] M _ hW hstW (by rw [Tm.eta]; exact ht.1) (by have := (valid_bounds ht).2; simp; omega) hs2
 rw [Tm.eta] at hfind
 have HF : Hid (∀ (W : World), Below (w.setCell ⟨g, 12, none⟩ (.slice sa 0 cap)).heap.size (w.setCell ⟨g, 12, none⟩ (.slice sa 0 cap)) W → Calls Tryz.prog 36 #[.agg #[.bool rl, .bool mo], .agg #[.int .i64 t.kind, .int .i64 t.num, .slice a t.kids.length c], .pointer (some ⟨g, 12, none⟩)] W (FindPost (mask (w.setCell ⟨g, 12, none⟩ (.slice sa 0 cap)) (Or2 M N)) g 12 56 (redCells rl mo fuel steps t.kind t.num (.slice a t.kids.length c) code found xk xn xs) [] M W t (.slice a t.kids.length c) (t.find rl mo))) := tuck fun W h => hfind W ((View.mask _ _).below h).first (hst2.below h)
 have HS2 := tuck hs2
 have HML : Hid (∀ i, M i → i < (w.setCell ⟨g, 12, none⟩ (.slice sa 0 cap)).heap.size) := tuck fun i hi => (hst2.lt i hi).2
 have HNL : Hid (∀ i, N i → i < (w.setCell ⟨g, 12, none⟩ (.slice sa 0 cap)).heap.size) := tuck fun i hi => by have := hN i hi; simpa [World.setCell] using this
 have HVT := tuck ht
 obtain ⟨z', d0, d1, d2, d3, d4, d5, d6, d7, d8, d9, d10, d11, hf'⟩ := red_cells hst2
 clear hfind c0 c1 c2 c3 c4 c5 c6 c7 c8 c9 c10 c11 hs2
 go_enter Tryz.func39, Tryz.ntmps39
 go_wp2_with fail
 generalize w.setCell ⟨g, 12, none⟩ (.slice sa 0 cap) = W1 at *
 have HP0 : Hid (∀ (w4 : World) (M' : Nat → Prop) (f' : Bool) (yk yn : Int) (ys : Value) (qs' : List (Tm × Value × Nat)), Step M W1 w4 M' → StkAt g 12 56 (redCells rl mo fuel steps t.kind t.num (.slice a t.kids.length c) code found xk xn xs) qs' M' w4 → (∀ W', View (mask W1 (Or2 M N)) (Or2 M' N) W' → match t.find rl mo with
  | none => f' = false
  | some (p, x) => f' = true ∧ yk = x.kind ∧ yn = x.num ∧ SlX W' (Or2 M' N) x.kids ys ∧ PassX W' (Or2 M' N) p qs') → SeekN g rl mo fuel steps t code M N w (.returned (.tuple #[])) ((((w4.setCell ⟨g, 9, none⟩ (.int .i64 yk)).setCell ⟨g, 10, none⟩ (.int .i64 yn)).setCell ⟨g, 11, none⟩ ys).setCell ⟨g, 8, none⟩ (.bool f'))) := tuck fun w4 M' f' yk yn ys qs' h1 h2 h3 => by
  have hm' : M' g := h2.own
  have hv : View (mask W1 (Or2 M N)) (Or2 M' N) ((((w4.setCell ⟨g, 9, none⟩ (.int .i64 yk)).setCell ⟨g, 10, none⟩ (.int .i64 yn)).setCell ⟨g, 11, none⟩ ys).setCell ⟨g, 8, none⟩ (.bool f')) := (((((View.mask W1 (Or2 M N)).step (h1.or HNL.out)).set (q := ⟨g, 9, none⟩) (Or.inl hm') _).set (q := ⟨g, 10, none⟩) (Or.inl hm') _).set (q := ⟨g, 11, none⟩) (Or.inl hm') _).set (q := ⟨g, 8, none⟩) (Or.inl hm') _
  exact ⟨rfl, M', HS0.out.trans ((((h1.setOwn (p := ⟨g, 9, none⟩) hm' _).setOwn (p := ⟨g, 10, none⟩) hm' _).setOwn (p := ⟨g, 11, none⟩) hm' _).setOwn (p := ⟨g, 8, none⟩) hm' _), _, f', yk, yn, ys, qs', stk_found h2 yk yn ys f', SlX.of_view HS2.out hv, h3 _ hv⟩
 generalize SeekN g rl mo fuel steps t code M N w = post at *
 cases hfd : t.find rl mo with
 | none =>
  rw [hfd] at HF HP0
  go_region_with (go_at_call 36; refine (HF.out _ (Below.refl _ _).drew).mono ?_; rintro e w4 hp4; obtain ⟨M', hst4, rfl, hsk4⟩ := FindPost.no hp4; have HQ := tuck (HP0.out w4 M' false t.kind t.num (.slice a t.kids.length c) [] ((Step.of_below (Below.refl _ _).drew HML.out).trans hst4) hsk4 (fun _ _ => rfl)); obtain ⟨z4, e0, e1, e2, e3, e4, e5, e6, e7, e8, e9, e10, e11, ef⟩ := red_cells hsk4; clear hp4 hst4 hsk4)
  all_goals (try go_wp2_with fail)
  all_goals (go_end0; exact HQ.out)
 | some y =>
  obtain ⟨p, x⟩ := y
  rw [hfd] at HF HP0
  obtain ⟨hip, -, -, -, hpv⟩ := Tm.find_ok t p x hfd HVT.out
  have HFO : Hid (InPath p ∧ ∀ y ∈ p, y.1.Valid) := tuck ⟨hip, hpv⟩
  clear hip hpv
  go_region_with (go_at_call 36; refine (HF.out _ (Below.refl _ _).drew).mono ?_; rintro e w4 hp4; obtain ⟨M', hst4, sx, qs', rfl, hsx4, hsk4, hpas4⟩ := FindPost.yes hp4; obtain ⟨xa, xc, rfl⟩ := hsx4.form; have HQ := tuck (HP0.out w4 M' true x.kind x.num (.slice xa x.kids.length xc) qs' ((Step.of_below (Below.refl _ _).drew HML.out).trans hst4) hsk4 (fun W' hv => ⟨rfl, rfl, rfl, SlX.of_view hsx4 hv, Passed.toX (fun l v h => SlX.of_view h hv) HFO.out.1 HFO.out.2 hpas4⟩)); obtain ⟨z4, e0, e1, e2, e3, e4, e5, e6, e7, e8, e9, e10, e11, ef⟩ := red_cells hsk4; clear hp4 hst4 hsk4 hsx4 hpas4)
  all_goals (try go_wp2_with fail)
  all_goals (go_end0; exact HQ.out)
end Go.Proofs.YtlbikgnanabjgaaGreat
namespace Go.Proofs.YtlbikgnanabjgaaGreat
open Go.RowKit
set_option linter.unusedVariables false
set_option linter.unusedSimpArgs false
theorem traceN_last : ∀ (n : Nat) (t x : Tm), (traceN n t).length ≤ n → (traceN n t)[(traceN n t).length - 1]? = some x → (stepOut false false x).2 ≠ 1
 | 0, t, x, h, _ => by simp [traceN] at h
 | n + 1, t, x, h, hx => by
  by_cases hs : (stepOut false false t).2 = 1
  ·rw [traceN_go hs] at h hx
   have h1 := (traceN_len n (stepOut false false t).1).1
   simp only [List.length_cons] at h hx
   refine traceN_last n (stepOut false false t).1 x (by omega) ?_
   obtain ⟨k, hk⟩ : ∃ k, (traceN n (stepOut false false t).1).length = k + 1 := ⟨_, (Nat.succ_pred_eq_of_pos h1).symm⟩
   rw [hk] at hx ⊢
   simpa using hx
  ·rw [traceN_end hs] at hx
   simp at hx
   exact hx ▸ hs
theorem traceN_runs : ∀ (n F : Nat) (t : Tm), t.Valid → (traceN n t).length ≤ n → (runGo false false F t).2.1 = 0 → (runGo false false F t).2.2 + 1 = (traceN n t).length
 | 0, F, t, _, h, _ => by simp [traceN] at h
 | n + 1, F, t, hv, h, h0 => by
  cases hs : t.step false false with
  | none => rw [runGo_none hs, traceN_end (so_none hv hs)]; rfl
  | some t' =>
   cases F with
   | zero => rw [runGo_zero hs] at h0; cases h0
   | succ F =>
    by_cases hv' : t'.Valid
    ·have hy := so_yes hv hs hv'
     have h1 : (stepOut false false t).2 = 1 := by rw [hy]
     have h2 : (stepOut false false t).1 = t' := by rw [hy]
     rw [traceN_go h1, h2] at h ⊢
     rw [runGo_took hs hv'] at h0 ⊢
     simp only [List.length_cons] at h ⊢
     have := traceN_runs n F t' hv' (by omega) h0
     omega
    ·rw [runGo_large hs hv'] at h0; cases h0
theorem traceN_next : ∀ (n q : Nat) (t x y : Tm), (traceN n t)[q]? = some x → (traceN n t)[q + 1]? = some y → stepOut false false x = (y, 1)
 | 0, q, t, x, y, _, h => by simp [traceN] at h
 | n + 1, q, t, x, y, hx, hy => by
  by_cases hs : (stepOut false false t).2 = 1
  ·rw [traceN_go hs] at hx hy
   cases q with
   | zero =>
    have h0 := traceN_zero n (stepOut false false t).1
    simp only [List.getElem?_cons_zero, Nat.zero_add, List.getElem?_cons_succ, Option.some.injEq] at hx hy
    rw [h0] at hy
    have h1 := Option.some.inj hy
    subst hx
    exact Prod.ext h1 hs
   | succ q =>
    simp only [List.getElem?_cons_succ] at hx hy
    exact traceN_next n q _ x y hx hy
  ·rw [traceN_end hs] at hy
   simp at hy
theorem trace_facts {T : Tm} {L : List Tm} (hL : L = traceL T) : (∀ x ∈ L, x.Valid) ∧ (∀ (q : Nat) (h : q + 1 < L.length), stepOut false false (L[q]'(by omega)) = (L[q + 1], 1)) ∧ L.length ≤ 12 ∧ ((T.Valid ∧ ∃ h : 0 < L.length, L[0] = T) ∨ (¬ T.Valid ∧ L.length = 0)) := by
 subst hL
 by_cases hv : T.Valid
 ·rw [traceL_yes hv]
  have h1 := traceN_len 11 T
  refine ⟨traceN_all 11 T hv, fun q h => traceN_next 11 q T _ _ (List.getElem?_eq_getElem _) (List.getElem?_eq_getElem _), h1.2, Or.inl ⟨hv, h1.1, ?_⟩⟩
  have h0 := traceN_zero 11 T
  rw [List.getElem?_eq_getElem h1.1] at h0
  exact Option.some.inj h0
 ·rw [traceL_no hv]
  exact ⟨fun x hx => (by cases hx), fun q h => (by simp at h), (by simp), Or.inr ⟨hv, rfl⟩⟩
end Go.Proofs.YtlbikgnanabjgaaGreat
