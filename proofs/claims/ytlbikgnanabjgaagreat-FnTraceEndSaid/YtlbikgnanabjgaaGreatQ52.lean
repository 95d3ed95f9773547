/-
  TrA.
-/
import Derived.Test.YtlbikgnanabjgaaGreatQ18
import Derived.Test.YtlbikgnanabjgaaGreatQ45
import Derived.Test.YtlbikgnanabjgaaGreatQ50
import Derived.LoopIn
import Derived.LoopNIn
import Derived.OwnWalkIn
import Derived.TacticsInMore
namespace Go.Proofs.YtlbikgnanabjgaaGreat
open Go.RowKit Go.Shelf
set_option linter.unusedVariables false
set_option linter.unusedSimpArgs false
attribute [local go_sem] Oper.semAt_some
theorem rounds_of' {F : Fence} {n : Nat} {P : Program} {c : Code} {Q : Exit → Act → World → Prop} {R : Nat → Act → World → Prop} (h0 : ∀ a w, ¬ R 0 a w) (h : ∀ m a w, R (m + 1) a w → c.wpIn F n P (Exit.then (R m) Q) a w) : ∀ m a w, R m a w → Code.roundsIn F n P c Q m a w
 | 0, a, w, hr => absurd hr (h0 a w)
 | m + 1, a, w, hr => by
  rw [roundsIn_succ]
  refine wpIn_mono (h m a w hr) ?_
  intro e a' w' he
  cases e with
  | normal => exact rounds_of' h0 h m a' w' he
  | ret => exact he
  | exit id => exact he
  | goto t => exact he
  | panic ch => exact he
  | outgrown => exact he
def NL (b : Nat) (w : World) : Nat → Prop := fun i => i = b ∨ ∃ v, w.cell? ⟨b, 0, none⟩ = some v ∧ v.ownBlock = some i
theorem NL.congr {b : Nat} {w w' : World} (h : w'.cell? ⟨b, 0, none⟩ = w.cell? ⟨b, 0, none⟩) : NL b w' = NL b w := by
 funext i
 unfold NL
 rw [h]
theorem RedN.keep {g : Nat} {rl mo : Bool} {fuel steps : Nat} {t : Tm} {code : Int} {M N N' : Nat → Prop} {A B : World} (h : RedN g rl mo fuel steps t code M N A) (hk : ∀ i, M i → B.heap[i]? = A.heap[i]?)
  (ho : ∀ (p : Addr) (u : Value), ¬ Or2 M N p.block → A.cell? p = some u → ¬ Or2 M N' p.block ∧ B.cell? p = some u) : RedN g rl mo fuel steps t code M N' B := by
 have hx : ∀ l v, SlX A (Or2 M N) l v → SlX B (Or2 M N') l v := fun l v h => h.to ho
 obtain ⟨s, found, xk, xn, xs, qs, h1, h2, h3⟩ := h
 refine ⟨s, found, xk, xn, xs, qs, ?_, hx _ _ h2, ?_⟩
 ·obtain ⟨e1, v, e2, e3, e4, rfl⟩ := h1
  refine ⟨e1, v, (hk g (Or.inl rfl)).trans e2, e3, ⟨e4.1, ?_⟩, rfl⟩
  rcases e4.2 with hn | ⟨b, cap, cur, rfl, hb, hgg, rest⟩
  ·exact Or.inl hn
  ·exact Or.inr ⟨b, cap, cur, rfl, hb, (hk b (Or.inr rfl)).trans hgg, rest⟩
 ·cases hf : t.find rl mo with
  | none => rw [hf] at h3; exact h3
  | some y =>
   obtain ⟨p, x⟩ := y
   rw [hf] at h3
   exact ⟨h3.1, h3.2.1, h3.2.2.1, hx _ _ h3.2.2.2.1, h3.2.2.2.2.to hx⟩
def TrAt (L : List Tm) (b : Nat) (k : Nat) (x : Value × Nat) (M : Nat → Prop) (w : World) : Prop :=
 ∃ (T : Tm) (a : Option Addr) (c : Nat), L[k]? = some T ∧ x.1 = .agg #[.int .i64 T.kind, .int .i64 T.num, .slice a T.kids.length c] ∧ w.cell? ⟨x.2, 6, none⟩ = some (.slice a T.kids.length c) ∧ SlX w (Or2 M (NL b w)) T.kids (.slice a T.kids.length c) ∧
  RedN x.2 false false 11 k T 0 M (NL b w) w ∧ (∀ i, M i → ¬ NL b w i) ∧ ∀ i, NL b w i → i < w.heap.size
set_option maxRecDepth 100000 in
set_option maxHeartbeats 4000000 in
theorem terms_in (n : Nat) (hn : 2 ≤ n) (u w0 : World) (hu0 : Below u.heap.size u w0) (t : Tm) (hv : t.Valid) (s : Value) (b1 b2 lb : Nat) (hb : VarAt b1 t.kind t.num s w0) (hb2 : w0.heap[b2]? = some (.cells #[.int .i64 11] 3 (0, 0))) (hlb : w0.heap[lb]? = some (.cells #[.slice none 0 0] 23 (0, 0))) (hul : u.heap.size ≤ lb) (hs : SlIn u 0 t.kids s) :
  SeqCells Fence.wide n Tryz.prog 30 #[.pointer (some ⟨b1, 0, none⟩), .pointer (some ⟨b2, 0, none⟩)] (traceN 11 t).length (fun x : Value × Nat => #[x.1]) (TrAt (traceN 11 t) lb) w0 := by
 intro l J W hW hstep hY hJ0
 obtain ⟨N, hN⟩ : ∃ N, N = (traceN 11 t).length := ⟨_, rfl⟩
 have hN12 : 1 ≤ N ∧ N ≤ 12 := by rw [hN]; exact traceN_len 11 t
 have HNN := tuck hN
 rw [← hN] at hY ⊢
 clear hN
 obtain ⟨a, c, rfl⟩ := hs.form
 obtain ⟨z, d0, d1, d2, df⟩ := (hb.below hW).facts
 obtain ⟨zf, cf, ff⟩ := block_of_cells ((hW.block _ (block_of_cells hb2).1).trans hb2)
 have f0 := cf 0
 simp only [List.size_toArray, List.length_cons, List.length_nil, Nat.lt_add_one, List.getElem?_toArray, List.getElem?_cons_zero] at f0
 have hlW := (hW.block _ (block_of_cells hlb).1).trans hlb
 obtain ⟨zl, cl, fl⟩ := block_of_cells hlW
 have hcl : W.cell? ⟨lb, 0, none⟩ = some (.slice none 0 0) := (cl 0).trans (by simp)
 have hNL : NL lb W = fun i => i = lb := by
  funext i
  unfold NL
  rw [hcl]
  simp [Value.ownBlock]
 have hsW : SlX W (NL lb W) t.kids (.slice a t.kids.length c) := by
  rw [hNL]
  exact SlX.of_view hs (View.of_below (bAfter hu0 hW) fun i hi => by rw [hi]; exact hul)
 have HST : Hid (∀ W2, Below W.heap.size W W2 → Calls Tryz.prog 25 #[.agg #[.int .i64 t.kind, .int .i64 t.num, .slice a t.kids.length c], .int .i64 11, .agg #[.bool false, .bool false]] W2 (StartN false false 11 t (NL lb W) W2)) := tuck fun W2 h =>
  startN_any false false 11 t hv (NL lb W) W2 (fun i hi => by rw [hNL] at hi; rw [hi]; exact Nat.lt_of_lt_of_le zl h.size) _ (hsW.below h)
 refine callsIn_of_wp Tryz.func30 rfl trivial ?_ rfl
 simp only [Tryz.ntmps30, List.size_toArray, List.length_cons, List.length_nil, Nat.reduceAdd, Nat.reduceSub, Array.replicate_succ, Array.replicate_zero, List.push_toArray, List.append_toArray, List.nil_append, List.cons_append]
 have HSK : Hid (∀ W2, Below W.heap.size W W2 → (fun w' : World => b1 < w'.heap.size ∧ b2 < w'.heap.size ∧ w'.cell? ⟨b1, 0, none⟩ = some (.int .i64 t.kind) ∧ w'.cell? ⟨b1, 1, none⟩ = some (.int .i64 t.num) ∧ w'.cell? ⟨b1, 2, none⟩ = some (.slice a t.kids.length c) ∧ w'.cell? ⟨b2, 0, none⟩ = some (.int .i64 11)) W2) := tuck fun W2 h => ⟨Nat.lt_of_lt_of_le z h.size, Nat.lt_of_lt_of_le zf h.size, (h.cell (p := ⟨b1, 0, none⟩) z).trans d0, (h.cell (p := ⟨b1, 1, none⟩) z).trans d1, (h.cell (p := ⟨b1, 2, none⟩) z).trans d2, (h.cell (p := ⟨b2, 0, none⟩) zf).trans f0⟩
 have HCL := tuck hcl
 have HNLW := tuck hNL
 have HJ0 := tuck hJ0
 have HTV := tuck hv
 have HZL := tuck zl
 clear z d0 d1 d2 df zf cf ff f0 zl cl fl hcl hNL hsW hJ0 hlW hb hb2 hlb hs
 gi_wp2_with fail
 refine wpIn_wide.2 ?_
 have HT12 : ∀ w' : World, (fun w' : World => b1 < w'.heap.size ∧ b2 < w'.heap.size ∧ w'.cell? ⟨b1, 0, none⟩ = some (.int .i64 t.kind) ∧ w'.cell? ⟨b1, 1, none⟩ = some (.int .i64 t.num) ∧ w'.cell? ⟨b1, 2, none⟩ = some (.slice a t.kids.length c) ∧ w'.cell? ⟨b2, 0, none⟩ = some (.int .i64 11)) w' → (fun w' : World => b1 < w'.heap.size ∧ b2 < w'.heap.size ∧ w'.cell? ⟨b1, 0, none⟩ = some (.int .i64 t.kind) ∧ w'.cell? ⟨b1, 1, none⟩ = some (.int .i64 t.num) ∧ w'.cell? ⟨b1, 2, none⟩ = some (.slice a t.kids.length c) ∧ w'.cell? ⟨b2, 0, none⟩ = some (.int .i64 11)) w' := fun w' h => h
 refine AnyTwo.begin (fun w' : World => b1 < w'.heap.size ∧ b2 < w'.heap.size ∧ w'.cell? ⟨b1, 0, none⟩ = some (.int .i64 t.kind) ∧ w'.cell? ⟨b1, 1, none⟩ = some (.int .i64 t.num) ∧ w'.cell? ⟨b1, 2, none⟩ = some (.slice a t.kids.length c) ∧ w'.cell? ⟨b2, 0, none⟩ = some (.int .i64 11)) (fun w' : World => b1 < w'.heap.size ∧ b2 < w'.heap.size ∧ w'.cell? ⟨b1, 0, none⟩ = some (.int .i64 t.kind) ∧ w'.cell? ⟨b1, 1, none⟩ = some (.int .i64 t.num) ∧ w'.cell? ⟨b1, 2, none⟩ = some (.slice a t.kids.length c) ∧ w'.cell? ⟨b2, 0, none⟩ = some (.int .i64 11)) 4 (by kernel_rfl) ?_
 have hS1 : (fun w' : World => b1 < w'.heap.size ∧ b2 < w'.heap.size ∧ w'.cell? ⟨b1, 0, none⟩ = some (.int .i64 t.kind) ∧ w'.cell? ⟨b1, 1, none⟩ = some (.int .i64 t.num) ∧ w'.cell? ⟨b1, 2, none⟩ = some (.slice a t.kids.length c) ∧ w'.cell? ⟨b2, 0, none⟩ = some (.int .i64 11)) _ := HSK.out _ (Below.refl _ _).drew
 refine AnyTwo.tk HT12 (i := 0) (oi := ⟨some 5, _, _, _, _, _⟩) rfl (ph_one (by kernel_rfl) hS1) ?_
 try simp only [pts]
 refine AnyTwo.tk HT12 (i := 1) (oi := ⟨some 6, _, _, _, _, _⟩) rfl (ph_one (by kernel_rfl) hS1) ?_
 try simp only [pts]
 refine AnyTwo.step (i := 2) (o := ⟨some 7, _, _, _, _, _⟩) (by kernel_rfl) rfl (fun K hK => ?_)
 go_simp
 refine (outside_any _).mono ?_
 rintro e w2 ⟨rfl, hb2⟩
 have HBB2 : Hid (Below W.heap.size W w2) := tuck (bAfter (Below.refl _ _).drew hb2)
 clear hb2
 have hS1' : (fun w' : World => b1 < w'.heap.size ∧ b2 < w'.heap.size ∧ w'.cell? ⟨b1, 0, none⟩ = some (.int .i64 t.kind) ∧ w'.cell? ⟨b1, 1, none⟩ = some (.int .i64 t.num) ∧ w'.cell? ⟨b1, 2, none⟩ = some (.slice a t.kids.length c) ∧ w'.cell? ⟨b2, 0, none⟩ = some (.int .i64 11)) _ := HSK.out _ HBB2.out
 refine hK.out _ _ (ph_one (by kernel_rfl) hS1') ?_
 clear hK K hS1
 have hS1 := hS1'
 clear hS1'
 try simp only [pts]
 refine AnyTwo.step (i := 3) (o := ⟨some 8, _, _, _, _, _⟩) (by kernel_rfl) rfl (fun K hK => ?_)
 go_simp
 refine (HST.out _ HBB2.out).mono ?_
 rintro e w3 ⟨g, M, rfl, hb3, hMg, hr3⟩
 have HBB3 : Hid (Below W.heap.size W w3) := tuck (bAfter HBB2.out hb3)
 have HMG : Hid (∀ i, M i → W.heap.size ≤ i) := tuck fun i hi => Nat.le_trans HBB2.out.size (hMg i hi)
 have HR3 := tuck hr3
 clear hb3 hMg hr3
 have hS1' : (fun w' : World => b1 < w'.heap.size ∧ b2 < w'.heap.size ∧ w'.cell? ⟨b1, 0, none⟩ = some (.int .i64 t.kind) ∧ w'.cell? ⟨b1, 1, none⟩ = some (.int .i64 t.num) ∧ w'.cell? ⟨b1, 2, none⟩ = some (.slice a t.kids.length c) ∧ w'.cell? ⟨b2, 0, none⟩ = some (.int .i64 11)) _ := HSK.out _ HBB3.out
 refine hK.out _ _ (ph_one (by kernel_rfl) hS1') ?_
 clear hK K hS1
 have hS1 := hS1'
 clear hS1'
 try simp only [pts]
 refine AnyTwo.step (i := 4) (o := ⟨some 4, _, _, _, _, _⟩) (by kernel_rfl) rfl (fun K hK => ?_)
 go_simp
 refine hK.out _ _ (ph_end (by kernel_rfl) hS1) ?_
 clear hK K
 try simp only [pts]
 refine AnyTwo.done (by kernel_rfl) ?_ _
 clear HT12
 clear hS1 HSK HST
 have HJ3 : Hid (J 0 M w3) := tuck (hstep 0 _ M W w3 HJ0.out ⟨HBB3.out.os, HBB3.out.tape, HBB3.out.output, HBB3.out.size, fun i hi _ => HBB3.out.block i hi, fun i hi hm => by have := HMG.out i hm; omega, fun i hi => (HR3.out.own.2 i hi).2⟩)
 have hcl3 : w3.cell? ⟨lb, 0, none⟩ = W.cell? ⟨lb, 0, none⟩ := HBB3.out.cell (p := ⟨lb, 0, none⟩) HZL.out
 have hnl3 : NL lb w3 = NL lb W := NL.congr hcl3
 have HAT : Hid (RedN g false false 11 0 t 0 M (NL lb w3) w3 ∧ (∀ i, M i → ¬ NL lb w3 i) ∧ ∀ i, NL lb w3 i → i < w3.heap.size) := tuck ⟨by rw [hnl3]; exact HR3.out, fun i hi hn => by
  rw [hnl3, HNLW.out] at hn
  have := HMG.out i hi
  have h2 := HZL.out
  omega, fun i hi => by
  rw [hnl3, HNLW.out] at hi
  rw [hi]
  exact Nat.lt_of_lt_of_le HZL.out HBB3.out.size⟩
 clear hcl3 hnl3 HBB2 HJ0 HCL HR3
 gi_wp2_with fail
 refine wpIn_loop_rounds N (rounds_of' (R := fun m a' w' => ∃ (k : Nat) (M : Nat → Prop) (T : Tm) (x9 x10 x11 x12 x13 x14 x15 x16 x17 x18 : Value), k + m = N ∧ 1 ≤ m ∧ J k M w' ∧ T.Valid ∧ traceN 11 t = (traceN 11 t).take k ++ traceN (11 - k) T ∧
   RedN g false false 11 k T 0 M (NL lb w') w' ∧ (∀ i, M i → ¬ NL lb w' i) ∧ (∀ i, NL lb w' i → i < w'.heap.size) ∧
   a' = { tmps := #[.func (.yield l) #[] #[], .pointer (some ⟨b1, 0, none⟩), .pointer (some ⟨b2, 0, none⟩), undef, .pointer (some ⟨g, 0, none⟩), .agg #[.int .i64 t.kind, .int .i64 t.num, .slice a t.kids.length c], .int .i64 11, .agg #[.bool false, .bool false], .pointer (some ⟨g, 0, none⟩), x9, x10, x11, x12, x13, x14, x15, x16, x17, x18], defers := [] }) ?zero ?step N _ _ ?start)
 case zero =>
  rintro a' w' ⟨k, M, T, _, _, _, _, _, _, _, _, _, _, -, h, -⟩
  omega
 case start =>
  obtain ⟨h1, h2, h3⟩ := HAT.out
  exact ⟨0, M, t, _, _, _, _, _, _, _, _, _, _, by omega, hN12.1, HJ3.out, HTV.out, by simp, h1, h2, h3, rfl⟩
 case step =>
  clear HAT HJ3 HMG HBB3 HNLW HZL HTV
  rintro m a' wr ⟨k, M, T, x9, x10, x11, x12, x13, x14, x15, x16, x17, x18, hkm, -, hJk, hTv, htr, hR, hdis, hbd, rfl⟩
  have hk : k < N := by omega
  obtain ⟨r, hr⟩ := traceN_cons (11 - k) T
  have htr2 := htr
  rw [hr] at htr2
  obtain ⟨hLk, hL1, hLn⟩ := take_next htr2 (by rw [← HNN.out]; exact hk)
  rw [← HNN.out] at hLn
  obtain ⟨zg, -, -, g4, g5, ⟨ga, gc, g6, hsx⟩, -, -, gf⟩ := hR.facts
  obtain ⟨fn, tmps, assign, body, hy, hRd⟩ := hY k M (.agg #[.int .i64 T.kind, .int .i64 T.num, .slice ga T.kids.length gc], g) wr hk hJk ⟨T, ga, gc, hLk, rfl, g6, hsx, hR, hdis, hbd⟩
  have HLK := tuck hLk
  have HTV := tuck hTv
  have HTR := tuck htr
  have HL1 := tuck hL1
  have HLN := tuck hLn
  have HRR := tuck hr
  clear hsx hR hdis hbd hJk hTv htr htr2 hLk hL1 hLn hr
  gi_wp2
  refine ⟨fun _ => by omega, hRd.mono ?_⟩
  rintro e W3 ⟨rfl, hJ3, T', a', c', hLk', hx1, hc6, hsx', hR', hdis', hbd'⟩
  obtain rfl : T' = T := by
   have := HLK.out
   rw [hLk'] at this
   simpa using this
  have HN := tuck (rstepN_any g false false 11 k (by omega) (by omega) T' HTV.out 0 M (NL lb W3) W3 hbd' hR')
  have HJ3 := tuck hJ3
  have HDIS := tuck hdis'
  have HBD := tuck hbd'
  have HML := tuck hR'.own.2
  clear hy hRd hJ3 hLk' hx1 hc6 hsx' hR' hdis' hbd' zg g4 g5 g6 gf
  gi_wp2_with fail
  refine ⟨trivial, fun _ => by omega, (callsIn_wide.2 HN.out).mono ?_⟩
  rintro e W4 ⟨M4, hst, hcase⟩
  have HJ4 := tuck (hstep (k + 1) M M4 W3 W4 HJ3.out hst)
  have hcl4 : W4.cell? ⟨lb, 0, none⟩ = W3.cell? ⟨lb, 0, none⟩ := hst.cell (p := ⟨lb, 0, none⟩) (HBD.out lb (Or.inl rfl)) (fun h => HDIS.out lb h (Or.inl rfl))
  have hnl4 : NL lb W4 = NL lb W3 := NL.congr hcl4
  rcases hcase with ⟨hs0, rfl, -⟩ | ⟨t', hs1, ⟨hk11, rfl, -⟩ | ⟨hk11, hnv, rfl, -⟩ | ⟨hk11, htv, rfl, hR4⟩⟩
  ·have hr0 : r = [] := by
    have h1 := HRR.out
    rw [traceN_end (so_none HTV.out hs0)] at h1
    simpa using h1.symm
   have HJN : Hid (J N M4 W4) := tuck (by rw [HLN.out, hr0]; exact HJ4.out)
   clear hst hcl4 hnl4 HN HJ3 hr0 hs0
   gi_wp2_with fail
   go_end0
   exact ⟨⟨_, rfl⟩, M4, HJN.out⟩
  ·have hr0 : r = [] := by
    have h1 := HRR.out
    rw [hk11] at h1
    simpa [traceN] using h1.symm
   have HJN : Hid (J N M4 W4) := tuck (by rw [HLN.out, hr0]; exact HJ4.out)
   clear hst hcl4 hnl4 HN HJ3 hr0 hs1 hk11
   gi_wp2_with fail
   go_end0
   exact ⟨⟨_, rfl⟩, M4, HJN.out⟩
  ·have hr0 : r = [] := by
    have h1 := HRR.out
    rw [traceN_end (so_inv HTV.out hs1 hnv)] at h1
    simpa using h1.symm
   have HJN : Hid (J N M4 W4) := tuck (by rw [HLN.out, hr0]; exact HJ4.out)
   clear hst hcl4 hnl4 HN HJ3 hr0 hs1 hk11 hnv
   gi_wp2_with fail
   go_end0
   exact ⟨⟨_, rfl⟩, M4, HJN.out⟩
  ·have hso := so_yes HTV.out hs1 htv
   have hr0 : r = traceN (11 - (k + 1)) t' := by
    have h1 := HRR.out
    rw [show 11 - k = 11 - (k + 1) + 1 by omega, traceN_go (by rw [hso]), hso] at h1
    simpa using h1.symm
   have HM1 : Hid (1 ≤ m) := tuck (by
    have h1 := HLN.out
    have h2 := (traceN_len (11 - (k + 1)) t').1
    rw [hr0] at h1
    omega)
   have HTR4 : Hid (traceN 11 t = (traceN 11 t).take (k + 1) ++ traceN (11 - (k + 1)) t') := tuck (by rw [← hr0]; exact HL1.out)
   have HR4 : Hid (RedN g false false 11 (k + 1) t' 0 M4 (NL lb W4) W4) := tuck (by rw [hnl4]; exact hR4)
   have HD4 : Hid (∀ i, M4 i → ¬ NL lb W4 i) := tuck fun i hi hn => by
    rw [hnl4] at hn
    exact HDIS.out i (hst.grow i (HBD.out i hn) hi) hn
   have HB4 : Hid (∀ i, NL lb W4 i → i < W4.heap.size) := tuck fun i hn => by
    rw [hnl4] at hn
    exact Nat.lt_of_lt_of_le (HBD.out i hn) hst.size
   have HTV4 := tuck htv
   clear hst hcl4 hnl4 HN HJ3 hr0 hs1 hk11 htv hR4 hso HTR HRR HL1 HLN HLK
   gi_wp2_with fail
   exact ⟨k + 1, M4, t', _, _, _, _, _, _, _, _, _, _, by omega, HM1.out, HJ4.out, HTV4.out, HTR4.out, HR4.out, HD4.out, HB4.out, rfl⟩
end Go.Proofs.YtlbikgnanabjgaaGreat
