/-
  DrawT.
-/
import Derived.Test.YtlbikgnanabjgaaGreatQ12
import Derived.Test.YtlbikgnanabjgaaGreatQ17
import Derived.Test.YtlbikgnanabjgaaGreatQ19
namespace Go.Proofs.YtlbikgnanabjgaaGreat
open Go.RowKit
def DrawPost (g : Nat) (a : Option Addr) (len cap p S : Nat) (w : World) (e : Ending) (w' : World) : Prop :=
 ∃ (t : Tm) (s : Value) (F : List Nat) (p' : Nat), e = .returned (.agg #[.int .i64 t.kind, .int .i64 t.num, s]) ∧ SlOwn w' t.kids s F ∧ F.Nodup ∧ (∀ x ∈ F, w.heap.size ≤ x ∧ x < w'.heap.size) ∧ t.size ≤ S ∧ p' ≤ p + 3 * S ∧ Rd g a len cap p' w' ∧ Only g w w'
theorem Only.grown {g : Nat} {a b c : World} {row : Option Nat} (h : Only g a b) (k : b.grownBy c row) (hr : ∀ x, row = some x → a.heap.size ≤ x) : Only g a c :=
 ⟨k.os.trans h.os, k.tape.trans h.tape, k.output.trans h.output, Nat.le_trans h.size k.size, fun x hx hn => (k.block x (Nat.lt_of_lt_of_le hx h.size) (fun e => by have := hr x e.symm; omega)).trans (h.block x hx hn)⟩
theorem VarAt.setN {g : Nat} {k n n' : Int} {s : Value} {w : World} (h : VarAt g k n s w) : VarAt g k n' s (w.setCell ⟨g, 1, none⟩ (.int .i64 n')) := by
 have := block_set h 1 (.int .i64 n')
 simpa [VarAt] using this
theorem Rd.far {g q : Nat} {a : Option Addr} {len cap p : Nat} {w : World} {i : Nat} {u : Value} (h : Rd g a len cap p w) (hn : q ≠ g) : Rd g a len cap p (w.setCell ⟨q, i, none⟩ u) := (Below.heap_setCell w ⟨q, i, none⟩ u g (fun e => hn e.symm)).trans h
theorem RowG.only {base g : Nat} {l : List Tm} {v : Value} {F : List Nat} {w w' : World} (h : RowG base l v F w) (ho : Only g w w') (hg : g < base) : RowG base l v F w' :=
 h.keep ho.size fun x hx => by
  rcases hx with hx | hx
  ·have := h.lt x hx
   exact ho.block x this.2 (fun e => by injection e with e; omega)
  ·have := h.flt x hx
   exact ho.block x this.2.1 (fun e => by injection e with e; omega)
theorem arity_bd (k : Int) : arity k ≤ 4 := by
 unfold arity
 split
 ·omega
 ·split
  ·omega
  ·split
   ·omega
   ·split
    ·omega
    ·split <;> omega
theorem arity_ge {k : Int} (h0 : 1 ≤ k) (h1 : k ≤ 16) : 0 ≤ arity k := by
 unfold arity
 split
 ·omega
 ·split
  ·omega
  ·split
   ·omega
   ·split
    ·omega
    ·split
     ·omega
     ·omega
set_option maxRecDepth 100000 in
set_option maxHeartbeats 3200000 in
theorem draw_step {U : Nat → Int} {g b o len cap : Nat} {a : Option Addr} (hlen : len ≤ 2000) (hbg : 0 < len → b ≠ g) (depth : Int) (p S S' : Nat) (w : World) (hd1 : -100 ≤ depth) (hd2 : depth ≤ 100) (hS : 1 + 4 * S ≤ S') (hp : p + 3 * S' ≤ 100000) (hrd : Rd g a len cap p w) (hby : Bytes U a b o len w)
  (hi : 2 ≤ depth → ∀ (q : Nat) (w : World), q + 3 * S ≤ 100000 → Rd g a len cap q w → Bytes U a b o len w → Calls Tryz.prog 63 #[.pointer (some ⟨g, 0, none⟩), .int .i64 (depth - 1)] w (DrawPost g a len cap q S w)) :
  Calls Tryz.prog 63 #[.pointer (some ⟨g, 0, none⟩), .int .i64 depth] w (DrawPost g a len cap p S' w) := by
 have hg := hrd.facts.1
 have HIQ := tuck hi
 have HRD := tuck hrd
 have HBY := tuck hby
 have HPOST : Hid (∀ (t : Tm) (w' : World) (s : Value) (F : List Nat) (p' : Nat), SlOwn w' t.kids s F → F.Nodup → (∀ x ∈ F, w.heap.size ≤ x ∧ x < w'.heap.size) → t.size ≤ S' → p' ≤ p + 3 * S' → Rd g a len cap p' w' → Only g w w' → DrawPost g a len cap p S' w (.returned (.agg #[.int .i64 t.kind, .int .i64 t.num, s])) w') := fun t w' s F p' h1 h2 h3 h4 h5 h6 h7 => ⟨t, s, F, p', rfl, h1, h2, h3, h4, h5, h6, h7⟩
 generalize DrawPost g a len cap p S' w = post at *
 have HL1 : Hid (DInts (fun i => ([1, 5, 4, 8, 9, 3, 6, 7, 11, 15, 14, 10, 12, 13, 16, 2] : List Int).getD i 0) (w.heap.size + 1) 0 16 ((w.alloc (.cells #[.int .i64 0, .int .i64 0, .slice none 0 0] 25)).alloc (.cells #[.int .i64 1, .int .i64 5, .int .i64 4, .int .i64 8, .int .i64 9, .int .i64 3, .int .i64 6, .int .i64 7, .int .i64 11, .int .i64 15, .int .i64 14, .int .i64 10, .int .i64 12, .int .i64 13, .int .i64 16, .int .i64 2] 3))) := by
  have := ints_new [1, 5, 4, 8, 9, 3, 6, 7, 11, 15, 14, 10, 12, 13, 16, 2] (w.alloc (.cells #[.int .i64 0, .int .i64 0, .slice none 0 0] 25)) 3
  rwa [show (w.alloc (.cells #[.int .i64 0, .int .i64 0, .slice none 0 0] 25)).heap.size = w.heap.size + 1 by simp] at this
 have HO0 : Hid (Only g w ((w.alloc (.cells #[.int .i64 0, .int .i64 0, .slice none 0 0] 25)).alloc (.cells #[.int .i64 1, .int .i64 5, .int .i64 4, .int .i64 8, .int .i64 9, .int .i64 3, .int .i64 6, .int .i64 7, .int .i64 11, .int .i64 15, .int .i64 14, .int .i64 10, .int .i64 12, .int .i64 13, .int .i64 16, .int .i64 2] 3))) := ((Only.refl g w).alloc _).alloc _
 have HV0 : Hid (VarAt w.heap.size 0 0 (.slice none 0 0) ((w.alloc (.cells #[.int .i64 0, .int .i64 0, .slice none 0 0] 25)).alloc (.cells #[.int .i64 1, .int .i64 5, .int .i64 4, .int .i64 8, .int .i64 9, .int .i64 3, .int .i64 6, .int .i64 7, .int .i64 11, .int .i64 15, .int .i64 14, .int .i64 10, .int .i64 12, .int .i64 13, .int .i64 16, .int .i64 2] 3))) := (VarAt.new w 0 0 (.slice none 0 0)).below (below1 _ _)
 have hpl : p + 3 ≤ 100000 := by omega
 have hpr : p + 3 * (1 + 4 * S) ≤ 100000 := by omega
 clear hrd hby hi
 by_cases hdp : 2 ≤ depth
 ·have gd : decide (depth < 2) = false := by simp; omega
  go_enter Tryz.func63, Tryz.ntmps63
  go_wp2_with fail
  refine (num_any (N := fun i => ([1, 5, 4, 8, 9, 3, 6, 7, 11, 15, 14, 10, 12, 13, 16, 2] : List Int).getD i 0) (o2 := 0) (n := 16) _ hlen (by omega) (by omega) (by omega) (HRD.out.below (below2 _ _ _)) (HBY.out.below (below2 _ _ _)) hbg HL1.out (by omega)).mono ?_
  rintro e w1 ⟨i1, hi1, he, hrd, ho⟩
  obtain ⟨KA, hKA⟩ : ∃ KA : Int, KA = ([1, 5, 4, 8, 9, 3, 6, 7, 11, 15, 14, 10, 12, 13, 16, 2] : List Int).getD i1 0 := ⟨_, rfl⟩
  obtain rfl : e = .returned (.int .i64 KA) := by rw [hKA]; exact he
  clear he
  have hk : 1 ≤ ([1, 5, 4, 8, 9, 3, 6, 7, 11, 15, 14, 10, 12, 13, 16, 2] : List Int).getD i1 0 ∧ ([1, 5, 4, 8, 9, 3, 6, 7, 11, 15, 14, 10, 12, 13, 16, 2] : List Int).getD i1 0 ≤ 16 := (by decide : ∀ i < 16, 1 ≤ ([1, 5, 4, 8, 9, 3, 6, 7, 11, 15, 14, 10, 12, 13, 16, 2] : List Int).getD i 0 ∧ ([1, 5, 4, 8, 9, 3, 6, 7, 11, 15, 14, 10, 12, 13, 16, 2] : List Int).getD i 0 ≤ 16) i1 hi1
  rw [← hKA] at hk
  clear hKA
  have HY0 := tuck (HV0.out.only ho (by omega))
  have HO := tuck (HO0.out.trans ho)
  have HR := tuck hrd
  have HB := tuck ((HBY.out.below (below2 w _ _)).only ho hbg)
  clear hrd ho HO0 HV0 HL1
  generalize KA = K at *
  obtain ⟨hk0, hk1⟩ := hk
  have hD : 2 ≤ depth ∨ arity K = 0 := Or.inl hdp
  have HD := tuck hD
  clear hD
  obtain ⟨p2, hp2, HRR⟩ : ∃ p2, p2 ≤ p + 2 ∧ Hid (Rd g a len cap p2 w1) := ⟨_, by omega, HR⟩
  clear HR
  have HR := HRR
  clear HRR
  by_cases hms : 0 < mostN K
  ·have gm : decide (0 < mostN K) = true := by simpa using hms
   clear hms
   go_wp2_with (go_at_call 49; refine (most_any K _).mono ?_; rintro e' w' ⟨rfl, rfl⟩)
   have HYt := tuck (VarAt.new w1 K 0 (.slice none 0 0))
   have hzt : w.heap.size ≤ w1.heap.size := HO.out.size
   have hgz : w.heap.size < w1.heap.size := HY0.out.facts.1
   have HL3 : Hid (DInts (fun i => ([0, 1, 0, 2, 1, 3] : List Int).getD i 0) (w1.heap.size + 1) 0 6 ((w1.alloc (.cells #[.int .i64 K, .int .i64 0, .slice none 0 0] 25)).alloc (.cells #[.int .i64 0, .int .i64 1, .int .i64 0, .int .i64 2, .int .i64 1, .int .i64 3] 3))) := by
    have := ints_new [0, 1, 0, 2, 1, 3] (w1.alloc (.cells #[.int .i64 K, .int .i64 0, .slice none 0 0] 25)) 3
    rwa [show (w1.alloc (.cells #[.int .i64 K, .int .i64 0, .slice none 0 0] 25)).heap.size = w1.heap.size + 1 by simp] at this
   refine (num_any (N := fun i => ([0, 1, 0, 2, 1, 3] : List Int).getD i 0) (o2 := 0) (n := 6) _ hlen (by omega) (by omega) (by omega) ((HR.out.below (below1 _ (.cells #[.int .i64 K, .int .i64 0, .slice none 0 0] 25))).below (below1 _ _)) ((HB.out.below (below1 _ (.cells #[.int .i64 K, .int .i64 0, .slice none 0 0] 25))).below (below1 _ _)) hbg HL3.out (by omega)).mono ?_
   rintro e w3 ⟨i3, hi3, he, hrd, ho⟩
   obtain ⟨n0, hn0⟩ : ∃ n0 : Int, n0 = ([0, 1, 0, 2, 1, 3] : List Int).getD i3 0 := ⟨_, rfl⟩
   obtain rfl : e = .returned (.int .i64 n0) := by rw [hn0]; exact he
   clear he hn0
   replace HYt := tuck ((HYt.out.below (below1 _ (.cells #[.int .i64 0, .int .i64 1, .int .i64 0, .int .i64 2, .int .i64 1, .int .i64 3] 3))).only ho (by omega))
   replace HY0 := tuck (((HY0.out.below (below1 _ (.cells #[.int .i64 K, .int .i64 0, .slice none 0 0] 25))).below (below1 _ (.cells #[.int .i64 0, .int .i64 1, .int .i64 0, .int .i64 2, .int .i64 1, .int .i64 3] 3))).only ho (by omega))
   replace HO := tuck (((HO.out.alloc (.cells #[.int .i64 K, .int .i64 0, .slice none 0 0] 25)).alloc (.cells #[.int .i64 0, .int .i64 1, .int .i64 0, .int .i64 2, .int .i64 1, .int .i64 3] 3)).trans ho)
   replace HR := tuck hrd
   replace HB := tuck ((((HB.out.below (below1 _ (.cells #[.int .i64 K, .int .i64 0, .slice none 0 0] 25))).below (below1 _ (.cells #[.int .i64 0, .int .i64 1, .int .i64 0, .int .i64 2, .int .i64 1, .int .i64 3] 3)))).only ho hbg)
   clear hrd ho HL3
   generalize w1.heap.size = gt at *
   obtain ⟨zt, y0, y1, y2, yf⟩ := HYt.out.facts
   go_wp2_with fail
   replace HYt := tuck (HYt.out.setN (n' := n0))
   replace HY0 := tuck (HY0.out.far (p := ⟨gt, 1, none⟩) (show w.heap.size ≠ gt by omega) (.int .i64 n0))
   replace HO := tuck (HO.out.setCell (p := ⟨gt, 1, none⟩) (Or.inr hzt) (.int .i64 n0))
   replace HR := tuck (HR.out.far (i := 1) (u := .int .i64 n0) (show gt ≠ g by omega))
   replace HB : Hid (Bytes U a b o len (w3.setCell ⟨gt, 1, none⟩ (.int .i64 n0))) := tuck (HBY.out.only HO.out hbg)
   clear zt y0 y1 y2 yf
   generalize w3.setCell ⟨gt, 1, none⟩ (.int .i64 n0) = W0 at *
   obtain ⟨p3, hp3, HRR⟩ : ∃ p3, p3 ≤ p + 3 ∧ Hid (Rd g a len cap p3 W0) := ⟨_, by omega, HR⟩
   clear HR
   have HR := HRR
   clear HRR hp2 gm
   try clear hrr
   obtain ⟨m, hm⟩ : ∃ m : Nat, arity K = m := ⟨(arity K).toNat, by have := arity_ge hk0 hk1; omega⟩
   have hm4 : m ≤ 4 := by have := arity_bd K; omega
   have HKA : Hid (∀ w : World, Calls Tryz.prog 48 #[.int .i64 K] w fun e w' => e = .returned (.int .i64 (m : Int)) ∧ w = w') := fun w => by have := kids_any K w; rwa [hm] at this
   rw [hm] at HD
   clear hm
   go_loopw [7] (fun i wr => ∃ (q : Nat) (ts : List Tm) (vl : Value) (F : List Nat) (pq : Nat), q ≤ m ∧ i = .int .i64 q ∧ ts.length = q ∧ sizes ts ≤ q * S ∧ pq ≤ p + 3 + 3 * (q * S) ∧ Only g w wr ∧ VarAt w.heap.size 0 0 (.slice none 0 0) wr ∧ VarAt gt K n0 vl wr ∧ RowG (gt + 1) ts vl F wr ∧ Rd g a len cap pq wr) (fun i _ => m - (intOf i).toNat)
   case atStart => exact ⟨0, [], _, [], p3, Nat.zero_le _, rfl, rfl, by simp [sizes], by omega, HO.out, HY0.out, HYt.out, RowG.nil _ _, HR.out⟩
   case round =>
    obtain ⟨q, ts, vl, F, pq, hq, rfl, hts, hss, hpq, ho, hy0, hyt, hrg, hrd⟩ := hrel
    have HOq := tuck ho
    have HY := tuck hy0
    have HYT := tuck hyt
    have HRG := tuck hrg
    have HRQ := tuck hrd
    have HSS := tuck hss
    have HPQ := tuck hpq
    clear ho hy0 hyt hrg hrd hss hpq HO HY0 HYt HR HB
    obtain ⟨va, vc, hvl⟩ := HRG.out.form
    rw [hts] at hvl
    subst hvl
    obtain ⟨zt, c70, c71, c72, c7f⟩ := HYT.out.facts
    by_cases hlt : q < m
    ·have hlti : ((q : Int) < (m : Int)) := by omega
     have hqi : (0 : Int) ≤ (q : Int) := by omega
     have hdp2 : 2 ≤ depth := by rcases HD.out with h | h <;> omega
     have hW1 : IntKind.i64.wrap (depth - 1) = depth - 1 := IntWalk.i64_in _ (by omega)
     have hqS : q * S ≤ 3 * S := Nat.mul_le_mul_right S (by omega)
     have HC := tuck (HIQ.out hdp2 pq wr.drew (by have := HPQ.out; omega) HRQ.out ((HBY.out.only HOq.out hbg).below (Below.refl _ _).drew))
     obtain ⟨i0, hi0, hz0, hz1, hz2⟩ := info_parts info_termG
     have hq4 : q + 1 ≤ maxLen := by unfold maxLen; omega
     have hqb : (q + 1) * 40 ≤ 140737488355328 := by omega
     clear hqS
     go_wp2_with (go_at_call 48; refine (HKA.out _).mono ?_; rintro e' w' ⟨rfl, rfl⟩)
     have HT12 : ∀ w' : World, (fun w' : World => w'.cell? ⟨gt, 2, none⟩ = some (.slice va q vc)) w' → (fun _ : World => True) w' := fun _ _ => trivial
     refine AnyTwo.begin (fun w' : World => w'.cell? ⟨gt, 2, none⟩ = some (.slice va q vc)) (fun _ : World => True) 7 (by kernel_rfl) ?_
     have hS1 : (fun w' : World => w'.cell? ⟨gt, 2, none⟩ = some (.slice va q vc)) wr.drew := c72
     refine AnyTwo.tk HT12 (i := 0) (oi := ⟨some 31, _, _, _, _, _⟩) rfl (ph_one (by kernel_rfl) hS1) ?_
     try simp only [pts]
     refine AnyTwo.take (i := 1) (oi := ⟨some 32, _, _, _, _, _⟩) (v := ?vlm1) rfl (by kernel_rfl) (by kernel_rfl) (by decide +kernel) (by kernel_rfl) (by rfl) (by kernel_rfl) (fun _ _ _ h => h) (Or.inl ⟨by rfl, ?ylm1⟩) hS1 ?rlm1
     case ylm1 => (intro w hSw; (try dsimp only at hSw); go_simp; try (with_reducible rfl))
     try simp only [pts]
     refine AnyTwo.tk HT12 (i := 2) (oi := ⟨some 33, _, _, _, _, _⟩) rfl (ph_one (by kernel_rfl) hS1) ?_
     try simp only [pts]
     refine AnyTwo.tk HT12 (i := 3) (oi := ⟨some 34, _, _, _, _, _⟩) rfl (ph_one (by kernel_rfl) hS1) ?_
     try simp only [pts]
     refine AnyTwo.tk HT12 (i := 4) (oi := ⟨some 35, _, _, _, _, _⟩) rfl (ph_one (by kernel_rfl) hS1) ?_
     try simp only [pts]
     refine AnyTwo.step (i := 5) (o := ⟨some 36, _, _, _, _, _⟩) (by kernel_rfl) rfl (fun KK hK => ?_)
     go_simp
     refine HC.out.mono ?_
     rintro e3 w3 ⟨T, ts3, F2, p4, rfl, hs2, hn2, hF2, hsz, hp4, hrd4, ho4⟩
     obtain ⟨ta, tc, rfl⟩ := hs2.form
     have ho4' : Only g wr w3 := ⟨ho4.os, ho4.tape, ho4.output, ho4.size, ho4.block⟩
     have HO3 := tuck (HOq.out.trans ho4')
     have HY3 := tuck (HY.out.only ho4' (by omega))
     have HYT3 := tuck (HYT.out.only ho4' (by omega))
     have HRG3 := tuck (HRG.out.only ho4' (by omega))
     have HRD3 := tuck hrd4
     obtain ⟨z7', d70, d71, d72, d7f⟩ := HYT3.out.facts
     have HRG4 := tuck (HRG3.out.below (below1 w3 (.cells #[.int .i64 T.kind, .int .i64 T.num, .slice ta T.kids.length tc] 25)))
     obtain ⟨xs, hox, hpush⟩ := HRG4.out.grow hts
     have HOX := tuck hox
     have HPUSH := tuck hpush
     have HS3 := tuck (hs2.alloc (fun g hg => (hF2 g hg).2) (.cells #[.int .i64 T.kind, .int .i64 T.num, .slice ta T.kids.length tc] 25))
     have HN3 := tuck hn2
     have HF3 : Hid (∀ x ∈ F2, wr.heap.size ≤ x ∧ x < w3.heap.size) := tuck hF2
     have HZS := tuck hsz
     have HP4 := tuck hp4
     have hz34 : wr.heap.size ≤ w3.heap.size := ho4'.size
     have d72' := ((below1 w3 (.cells #[.int .i64 T.kind, .int .i64 T.num, .slice ta T.kids.length tc] 25)).cell (p := ⟨gt, 2, none⟩) z7').trans d72
     have HZ4 : Hid (gt < (w3.alloc (.cells #[.int .i64 T.kind, .int .i64 T.num, .slice ta T.kids.length tc] 25)).heap.size) := tuck (Nat.lt_of_lt_of_le z7' (below1 w3 _).size)
     have HNE : Hid (some gt ≠ (Value.slice va q vc).ownBlock ∧ some w.heap.size ≠ (Value.slice va q vc).ownBlock ∧ some g ≠ (Value.slice va q vc).ownBlock) := by
      have hlo := HRG.out.lt
      refine ⟨fun e => ?_, fun e => ?_, fun e => ?_⟩ <;> (have := (hlo _ e.symm).1; omega)
     clear hox hpush hs2 hn2 hF2 hsz hp4 hrd4 ho4 ho4'
     have hS1' : (fun w' : World => w'.cell? ⟨gt, 2, none⟩ = some (.slice va q vc)) _ := d72
     refine hK.out _ _ (ph_one (by kernel_rfl) hS1') ?_
     clear hK KK hS1
     have hS1 := hS1'
     clear hS1'
     try simp only [pts]
     refine AnyTwo.step (i := 6) (o := ⟨some 37, _, _, _, _, _⟩) (by kernel_rfl) rfl (fun KK hK => ?_)
     go_simp
     have hS1' : (fun w' : World => w'.cell? ⟨gt, 2, none⟩ = some (.slice va q vc)) _ := d72'
     refine hK.out _ _ (ph_one (by kernel_rfl) hS1') ?_
     clear hK KK hS1
     have hS1 := hS1'
     clear hS1'
     try simp only [pts]
     refine AnyTwo.step (i := 7) (o := ⟨some 38, _, _, _, _, _⟩) (by kernel_rfl) rfl (fun KK hK => ?_)
     refine step_append_lies _ (by rfl) _ _ _ (by rfl) (gt + 1) 25 i0 _ 3 40 Tryz.underlying23 hi0 hz0 hz1 hz2 rfl (by omega) _ _ _ (by rfl) HOX.out ⟨w3.heap.size, 0, none⟩ 1 1 [.int .i64 T.kind, .int .i64 T.num, .slice ta T.kids.length tc] (by rfl) (by rfl) (World.news_of_block (cs := #[.int .i64 T.kind, .int .i64 T.num, .slice ta T.kids.length tc]) (t := 25) (fr := (0, 0)) (heap_new w3 _)) (by simp [Value.oneCell']) (by omega) hq4 hqb (by simp; omega) (w3.heap.size + 1) (by simp) ?_
     intro gg gcap w4 hown4 hgrow hat hlt4
     have k70 := (hgrow.cell_far ⟨gt, 2, none⟩ HZ4.out HNE.out.1).trans d72'
     have k7f := (hgrow.frozen_far ⟨gt, 2, none⟩ HZ4.out HNE.out.1).trans (((below1 w3 _).frozen (p := ⟨gt, 2, none⟩) z7').trans (d7f 2))
     refine hK.out _ _ (ph_end (by kernel_rfl) trivial) ?_
     clear hK KK
     try simp only [pts]
     refine AnyTwo.tk HT12 (i := 8) (oi := ⟨some 39, _, _, _, _, _⟩) rfl (ph_end (by kernel_rfl) trivial) ?_
     try simp only [pts]
     refine AnyTwo.step (i := 9) (o := ⟨none, _, _, _, _, _⟩) (by kernel_rfl) rfl (fun KK hK => ?_)
     go_simp
     refine hK.out _ _ (ph_end (by kernel_rfl) trivial) ?_
     clear hK KK
     try simp only [pts]
     refine AnyTwo.done (by kernel_rfl) ?_ _
     clear hS1 HT12 k70 k7f d70 d71 d72 d7f d72' hW1
     go_wp2_with fail
     go_roundw
     case rel =>
      have hflt := HRG.out.flt
      have hlo := HRG3.out.lt
      have hz3 := HF3.out
      have hoA : Only g w w4 := (HO3.out.alloc (.cells #[.int .i64 T.kind, .int .i64 T.num, .slice ta T.kids.length tc] 25)).grown hgrow (fun x hx => by have := (hlo x hx).1; omega)
      refine ⟨q + 1, ts ++ [T], .slice (some ⟨gg, 0, none⟩) (q + 1) gcap, F ++ F2, p4, by omega, by go_num, by simp [hts], ?_, ?_, hoA.setCell (Or.inr (by show w.heap.size ≤ gt; omega)) _, ?_, ?_, ?_, ?_⟩
      ·rw [sizes_append]
       have h1 := HSS.out
       have h2 := HZS.out
       simp only [sizes]
       rw [Nat.add_mul]
       omega
      ·have h1 := HPQ.out
       have h2 := HP4.out
       rw [Nat.add_mul]
       omega
      ·exact (((HY3.out.below (below1 w3 (.cells #[.int .i64 T.kind, .int .i64 T.num, .slice ta T.kids.length tc] 25)))).grown hgrow HNE.out.2.1).far (by show w.heap.size ≠ gt; omega) _
      ·exact ((HYT3.out.below (below1 w3 (.cells #[.int .i64 T.kind, .int .i64 T.num, .slice ta T.kids.length tc] 25))).grown hgrow HNE.out.1).set2
      ·refine (HPUSH.out _ _ F2 w4 T HS3.out HN3.out (fun x hx => ?_) hown4 hgrow (hat.imp (fun h => h.symm) (fun h => by rw [h]; simp [Value.ownBlock]))).setCell (by show gt < gt + 1; omega) _
       have h1 := HF3.out x hx
       have h2 := HRG.out.lt
       refine ⟨by omega, by simp; omega, fun hf => by have := (hflt x hf).2.1; omega, fun e => by have := (h2 x e).2; omega⟩
      ·have hr : Rd g a len cap p4 w4 := (hgrow.block g (Nat.lt_of_lt_of_le HRD3.out.facts.1 (below1 w3 _).size) HNE.out.2.2).trans (HRD3.out.below (below1 w3 (.cells #[.int .i64 T.kind, .int .i64 T.num, .slice ta T.kids.length tc] 25)))
       exact hr.far (show gt ≠ g by omega)
     case measure => simp [intOf]; omega
    ·have hge2 : ¬ ((q : Int) < (m : Int)) := by omega
     have e : q = m := by omega
     subst e
     obtain ⟨z6, c60, c61, c62, c6f⟩ := HY.out.facts
     obtain ⟨G, hG, hGn, hGb⟩ := HRG.out.done (by rw [hts]; unfold maxLen; omega)
     have HG := tuck hG
     have HGn := tuck hGn
     have HGb := tuck hGb
     clear hG hGn hGb
     have hmS : q * S ≤ 4 * S := Nat.mul_le_mul_right S hm4
     have HPE := tuck (HPOST.out (.mk K n0 ts))
     have HTS := tuck hts
     simp only [Tm.kind, Tm.num, Tm.kids, Tm.size] at HPE
     go_wp2_with (go_at_call 48; refine (HKA.out _).mono ?_; rintro e' w' ⟨rfl, rfl⟩)
     refine bodyPost_ret (v := .agg #[.int .i64 K, .int .i64 n0, .slice va q vc]) (by simp [results, Tryz.results63, go_sem, *]) rfl (HPE.out _ _ G pq ?_ HGn.out (fun x hx => ?_) ?_ ?_ ?_ ?_)
     ·exact HG.out.set3 (fun h => by have := (HGb.out _ h).1; omega) _ _ _ _ _ _
     ·rw [size_set3]
      have := HGb.out x hx
      omega
     ·have := HSS.out
      omega
     ·have := HPQ.out
      omega
     ·exact ((HRQ.out.far (show w.heap.size ≠ g by omega)).far (show w.heap.size ≠ g by omega)).far (show w.heap.size ≠ g by omega)
     ·exact ((HOq.out.setCell (Or.inr (Nat.le_refl _)) _).setCell (Or.inr (Nat.le_refl _)) _).setCell (Or.inr (Nat.le_refl _)) _
  ·have gm : decide (0 < mostN K) = false := by simpa using hms
   clear hms
   go_wp2_with (go_at_call 49; refine (most_any K _).mono ?_; rintro e' w' ⟨rfl, rfl⟩)
   have HYt := tuck (VarAt.new w1 K 0 (.slice none 0 0))
   have hzt : w.heap.size ≤ w1.heap.size := HO.out.size
   have hgz : w.heap.size < w1.heap.size := HY0.out.facts.1
   replace HY0 := tuck (HY0.out.below (below1 _ (.cells #[.int .i64 K, .int .i64 0, .slice none 0 0] 25)))
   replace HO := tuck (HO.out.alloc (.cells #[.int .i64 K, .int .i64 0, .slice none 0 0] 25))
   replace HR := tuck (HR.out.below (below1 _ (.cells #[.int .i64 K, .int .i64 0, .slice none 0 0] 25)))
   replace HB := tuck (HB.out.below (below1 _ (.cells #[.int .i64 K, .int .i64 0, .slice none 0 0] 25)))
   generalize w1.alloc (.cells #[.int .i64 K, .int .i64 0, .slice none 0 0] 25) = W0 at *
   generalize w1.heap.size = gt at *
   obtain ⟨n0, hn0⟩ : ∃ n0 : Int, n0 = 0 := ⟨0, rfl⟩
   rw [← hn0] at HYt
   clear hn0
   obtain ⟨p3, hp3, HRR⟩ : ∃ p3, p3 ≤ p + 3 ∧ Hid (Rd g a len cap p3 W0) := ⟨_, by omega, HR⟩
   clear HR
   have HR := HRR
   clear HRR hp2 gm
   try clear hrr
   obtain ⟨m, hm⟩ : ∃ m : Nat, arity K = m := ⟨(arity K).toNat, by have := arity_ge hk0 hk1; omega⟩
   have hm4 : m ≤ 4 := by have := arity_bd K; omega
   have HKA : Hid (∀ w : World, Calls Tryz.prog 48 #[.int .i64 K] w fun e w' => e = .returned (.int .i64 (m : Int)) ∧ w = w') := fun w => by have := kids_any K w; rwa [hm] at this
   rw [hm] at HD
   clear hm
   go_loopw [7] (fun i wr => ∃ (q : Nat) (ts : List Tm) (vl : Value) (F : List Nat) (pq : Nat), q ≤ m ∧ i = .int .i64 q ∧ ts.length = q ∧ sizes ts ≤ q * S ∧ pq ≤ p + 3 + 3 * (q * S) ∧ Only g w wr ∧ VarAt w.heap.size 0 0 (.slice none 0 0) wr ∧ VarAt gt K n0 vl wr ∧ RowG (gt + 1) ts vl F wr ∧ Rd g a len cap pq wr) (fun i _ => m - (intOf i).toNat)
   case atStart => exact ⟨0, [], _, [], p3, Nat.zero_le _, rfl, rfl, by simp [sizes], by omega, HO.out, HY0.out, HYt.out, RowG.nil _ _, HR.out⟩
   case round =>
    obtain ⟨q, ts, vl, F, pq, hq, rfl, hts, hss, hpq, ho, hy0, hyt, hrg, hrd⟩ := hrel
    have HOq := tuck ho
    have HY := tuck hy0
    have HYT := tuck hyt
    have HRG := tuck hrg
    have HRQ := tuck hrd
    have HSS := tuck hss
    have HPQ := tuck hpq
    clear ho hy0 hyt hrg hrd hss hpq HO HY0 HYt HR HB
    obtain ⟨va, vc, hvl⟩ := HRG.out.form
    rw [hts] at hvl
    subst hvl
    obtain ⟨zt, c70, c71, c72, c7f⟩ := HYT.out.facts
    by_cases hlt : q < m
    ·have hlti : ((q : Int) < (m : Int)) := by omega
     have hqi : (0 : Int) ≤ (q : Int) := by omega
     have hdp2 : 2 ≤ depth := by rcases HD.out with h | h <;> omega
     have hW1 : IntKind.i64.wrap (depth - 1) = depth - 1 := IntWalk.i64_in _ (by omega)
     have hqS : q * S ≤ 3 * S := Nat.mul_le_mul_right S (by omega)
     have HC := tuck (HIQ.out hdp2 pq wr.drew (by have := HPQ.out; omega) HRQ.out ((HBY.out.only HOq.out hbg).below (Below.refl _ _).drew))
     obtain ⟨i0, hi0, hz0, hz1, hz2⟩ := info_parts info_termG
     have hq4 : q + 1 ≤ maxLen := by unfold maxLen; omega
     have hqb : (q + 1) * 40 ≤ 140737488355328 := by omega
     clear hqS
     go_wp2_with (go_at_call 48; refine (HKA.out _).mono ?_; rintro e' w' ⟨rfl, rfl⟩)
     have HT12 : ∀ w' : World, (fun w' : World => w'.cell? ⟨gt, 2, none⟩ = some (.slice va q vc)) w' → (fun _ : World => True) w' := fun _ _ => trivial
     refine AnyTwo.begin (fun w' : World => w'.cell? ⟨gt, 2, none⟩ = some (.slice va q vc)) (fun _ : World => True) 7 (by kernel_rfl) ?_
     have hS1 : (fun w' : World => w'.cell? ⟨gt, 2, none⟩ = some (.slice va q vc)) wr.drew := c72
     refine AnyTwo.tk HT12 (i := 0) (oi := ⟨some 31, _, _, _, _, _⟩) rfl (ph_one (by kernel_rfl) hS1) ?_
     try simp only [pts]
     refine AnyTwo.take (i := 1) (oi := ⟨some 32, _, _, _, _, _⟩) (v := ?vln1) rfl (by kernel_rfl) (by kernel_rfl) (by decide +kernel) (by kernel_rfl) (by rfl) (by kernel_rfl) (fun _ _ _ h => h) (Or.inl ⟨by rfl, ?yln1⟩) hS1 ?rln1
     case yln1 => (intro w hSw; (try dsimp only at hSw); go_simp; try (with_reducible rfl))
     try simp only [pts]
     refine AnyTwo.tk HT12 (i := 2) (oi := ⟨some 33, _, _, _, _, _⟩) rfl (ph_one (by kernel_rfl) hS1) ?_
     try simp only [pts]
     refine AnyTwo.tk HT12 (i := 3) (oi := ⟨some 34, _, _, _, _, _⟩) rfl (ph_one (by kernel_rfl) hS1) ?_
     try simp only [pts]
     refine AnyTwo.tk HT12 (i := 4) (oi := ⟨some 35, _, _, _, _, _⟩) rfl (ph_one (by kernel_rfl) hS1) ?_
     try simp only [pts]
     refine AnyTwo.step (i := 5) (o := ⟨some 36, _, _, _, _, _⟩) (by kernel_rfl) rfl (fun KK hK => ?_)
     go_simp
     refine HC.out.mono ?_
     rintro e3 w3 ⟨T, ts3, F2, p4, rfl, hs2, hn2, hF2, hsz, hp4, hrd4, ho4⟩
     obtain ⟨ta, tc, rfl⟩ := hs2.form
     have ho4' : Only g wr w3 := ⟨ho4.os, ho4.tape, ho4.output, ho4.size, ho4.block⟩
     have HO3 := tuck (HOq.out.trans ho4')
     have HY3 := tuck (HY.out.only ho4' (by omega))
     have HYT3 := tuck (HYT.out.only ho4' (by omega))
     have HRG3 := tuck (HRG.out.only ho4' (by omega))
     have HRD3 := tuck hrd4
     obtain ⟨z7', d70, d71, d72, d7f⟩ := HYT3.out.facts
     have HRG4 := tuck (HRG3.out.below (below1 w3 (.cells #[.int .i64 T.kind, .int .i64 T.num, .slice ta T.kids.length tc] 25)))
     obtain ⟨xs, hox, hpush⟩ := HRG4.out.grow hts
     have HOX := tuck hox
     have HPUSH := tuck hpush
     have HS3 := tuck (hs2.alloc (fun g hg => (hF2 g hg).2) (.cells #[.int .i64 T.kind, .int .i64 T.num, .slice ta T.kids.length tc] 25))
     have HN3 := tuck hn2
     have HF3 : Hid (∀ x ∈ F2, wr.heap.size ≤ x ∧ x < w3.heap.size) := tuck hF2
     have HZS := tuck hsz
     have HP4 := tuck hp4
     have hz34 : wr.heap.size ≤ w3.heap.size := ho4'.size
     have d72' := ((below1 w3 (.cells #[.int .i64 T.kind, .int .i64 T.num, .slice ta T.kids.length tc] 25)).cell (p := ⟨gt, 2, none⟩) z7').trans d72
     have HZ4 : Hid (gt < (w3.alloc (.cells #[.int .i64 T.kind, .int .i64 T.num, .slice ta T.kids.length tc] 25)).heap.size) := tuck (Nat.lt_of_lt_of_le z7' (below1 w3 _).size)
     have HNE : Hid (some gt ≠ (Value.slice va q vc).ownBlock ∧ some w.heap.size ≠ (Value.slice va q vc).ownBlock ∧ some g ≠ (Value.slice va q vc).ownBlock) := by
      have hlo := HRG.out.lt
      refine ⟨fun e => ?_, fun e => ?_, fun e => ?_⟩ <;> (have := (hlo _ e.symm).1; omega)
     clear hox hpush hs2 hn2 hF2 hsz hp4 hrd4 ho4 ho4'
     have hS1' : (fun w' : World => w'.cell? ⟨gt, 2, none⟩ = some (.slice va q vc)) _ := d72
     refine hK.out _ _ (ph_one (by kernel_rfl) hS1') ?_
     clear hK KK hS1
     have hS1 := hS1'
     clear hS1'
     try simp only [pts]
     refine AnyTwo.step (i := 6) (o := ⟨some 37, _, _, _, _, _⟩) (by kernel_rfl) rfl (fun KK hK => ?_)
     go_simp
     have hS1' : (fun w' : World => w'.cell? ⟨gt, 2, none⟩ = some (.slice va q vc)) _ := d72'
     refine hK.out _ _ (ph_one (by kernel_rfl) hS1') ?_
     clear hK KK hS1
     have hS1 := hS1'
     clear hS1'
     try simp only [pts]
     refine AnyTwo.step (i := 7) (o := ⟨some 38, _, _, _, _, _⟩) (by kernel_rfl) rfl (fun KK hK => ?_)
     refine step_append_lies _ (by rfl) _ _ _ (by rfl) (gt + 1) 25 i0 _ 3 40 Tryz.underlying23 hi0 hz0 hz1 hz2 rfl (by omega) _ _ _ (by rfl) HOX.out ⟨w3.heap.size, 0, none⟩ 1 1 [.int .i64 T.kind, .int .i64 T.num, .slice ta T.kids.length tc] (by rfl) (by rfl) (World.news_of_block (cs := #[.int .i64 T.kind, .int .i64 T.num, .slice ta T.kids.length tc]) (t := 25) (fr := (0, 0)) (heap_new w3 _)) (by simp [Value.oneCell']) (by omega) hq4 hqb (by simp; omega) (w3.heap.size + 1) (by simp) ?_
     intro gg gcap w4 hown4 hgrow hat hlt4
     have k70 := (hgrow.cell_far ⟨gt, 2, none⟩ HZ4.out HNE.out.1).trans d72'
     have k7f := (hgrow.frozen_far ⟨gt, 2, none⟩ HZ4.out HNE.out.1).trans (((below1 w3 _).frozen (p := ⟨gt, 2, none⟩) z7').trans (d7f 2))
     refine hK.out _ _ (ph_end (by kernel_rfl) trivial) ?_
     clear hK KK
     try simp only [pts]
     refine AnyTwo.tk HT12 (i := 8) (oi := ⟨some 39, _, _, _, _, _⟩) rfl (ph_end (by kernel_rfl) trivial) ?_
     try simp only [pts]
     refine AnyTwo.step (i := 9) (o := ⟨none, _, _, _, _, _⟩) (by kernel_rfl) rfl (fun KK hK => ?_)
     go_simp
     refine hK.out _ _ (ph_end (by kernel_rfl) trivial) ?_
     clear hK KK
     try simp only [pts]
     refine AnyTwo.done (by kernel_rfl) ?_ _
     clear hS1 HT12 k70 k7f d70 d71 d72 d7f d72' hW1
     go_wp2_with fail
     go_roundw
     case rel =>
      have hflt := HRG.out.flt
      have hlo := HRG3.out.lt
      have hz3 := HF3.out
      have hoA : Only g w w4 := (HO3.out.alloc (.cells #[.int .i64 T.kind, .int .i64 T.num, .slice ta T.kids.length tc] 25)).grown hgrow (fun x hx => by have := (hlo x hx).1; omega)
      refine ⟨q + 1, ts ++ [T], .slice (some ⟨gg, 0, none⟩) (q + 1) gcap, F ++ F2, p4, by omega, by go_num, by simp [hts], ?_, ?_, hoA.setCell (Or.inr (by show w.heap.size ≤ gt; omega)) _, ?_, ?_, ?_, ?_⟩
      ·rw [sizes_append]
       have h1 := HSS.out
       have h2 := HZS.out
       simp only [sizes]
       rw [Nat.add_mul]
       omega
      ·have h1 := HPQ.out
       have h2 := HP4.out
       rw [Nat.add_mul]
       omega
      ·exact (((HY3.out.below (below1 w3 (.cells #[.int .i64 T.kind, .int .i64 T.num, .slice ta T.kids.length tc] 25)))).grown hgrow HNE.out.2.1).far (by show w.heap.size ≠ gt; omega) _
      ·exact ((HYT3.out.below (below1 w3 (.cells #[.int .i64 T.kind, .int .i64 T.num, .slice ta T.kids.length tc] 25))).grown hgrow HNE.out.1).set2
      ·refine (HPUSH.out _ _ F2 w4 T HS3.out HN3.out (fun x hx => ?_) hown4 hgrow (hat.imp (fun h => h.symm) (fun h => by rw [h]; simp [Value.ownBlock]))).setCell (by show gt < gt + 1; omega) _
       have h1 := HF3.out x hx
       have h2 := HRG.out.lt
       refine ⟨by omega, by simp; omega, fun hf => by have := (hflt x hf).2.1; omega, fun e => by have := (h2 x e).2; omega⟩
      ·have hr : Rd g a len cap p4 w4 := (hgrow.block g (Nat.lt_of_lt_of_le HRD3.out.facts.1 (below1 w3 _).size) HNE.out.2.2).trans (HRD3.out.below (below1 w3 (.cells #[.int .i64 T.kind, .int .i64 T.num, .slice ta T.kids.length tc] 25)))
       exact hr.far (show gt ≠ g by omega)
     case measure => simp [intOf]; omega
    ·have hge2 : ¬ ((q : Int) < (m : Int)) := by omega
     have e : q = m := by omega
     subst e
     obtain ⟨z6, c60, c61, c62, c6f⟩ := HY.out.facts
     obtain ⟨G, hG, hGn, hGb⟩ := HRG.out.done (by rw [hts]; unfold maxLen; omega)
     have HG := tuck hG
     have HGn := tuck hGn
     have HGb := tuck hGb
     clear hG hGn hGb
     have hmS : q * S ≤ 4 * S := Nat.mul_le_mul_right S hm4
     have HPE := tuck (HPOST.out (.mk K n0 ts))
     have HTS := tuck hts
     simp only [Tm.kind, Tm.num, Tm.kids, Tm.size] at HPE
     go_wp2_with (go_at_call 48; refine (HKA.out _).mono ?_; rintro e' w' ⟨rfl, rfl⟩)
     refine bodyPost_ret (v := .agg #[.int .i64 K, .int .i64 n0, .slice va q vc]) (by simp [results, Tryz.results63, go_sem, *]) rfl (HPE.out _ _ G pq ?_ HGn.out (fun x hx => ?_) ?_ ?_ ?_ ?_)
     ·exact HG.out.set3 (fun h => by have := (HGb.out _ h).1; omega) _ _ _ _ _ _
     ·rw [size_set3]
      have := HGb.out x hx
      omega
     ·have := HSS.out
      omega
     ·have := HPQ.out
      omega
     ·exact ((HRQ.out.far (show w.heap.size ≠ g by omega)).far (show w.heap.size ≠ g by omega)).far (show w.heap.size ≠ g by omega)
     ·exact ((HOq.out.setCell (Or.inr (Nat.le_refl _)) _).setCell (Or.inr (Nat.le_refl _)) _).setCell (Or.inr (Nat.le_refl _)) _
 ·have gd : decide (depth < 2) = true := by simp; omega
  go_enter Tryz.func63, Tryz.ntmps63
  go_wp2_with fail
  refine (num_any (N := fun i => ([1, 5, 4, 8, 9, 3, 6, 7, 11, 15, 14, 10, 12, 13, 16, 2] : List Int).getD i 0) (o2 := 0) (n := 16) _ hlen (by omega) (by omega) (by omega) (HRD.out.below (below2 _ _ _)) (HBY.out.below (below2 _ _ _)) hbg HL1.out (by omega)).mono ?_
  rintro e w1 ⟨i1, hi1, he, hrd, ho⟩
  obtain ⟨KA, hKA⟩ : ∃ KA : Int, KA = ([1, 5, 4, 8, 9, 3, 6, 7, 11, 15, 14, 10, 12, 13, 16, 2] : List Int).getD i1 0 := ⟨_, rfl⟩
  obtain rfl : e = .returned (.int .i64 KA) := by rw [hKA]; exact he
  clear he
  have hk : 1 ≤ ([1, 5, 4, 8, 9, 3, 6, 7, 11, 15, 14, 10, 12, 13, 16, 2] : List Int).getD i1 0 ∧ ([1, 5, 4, 8, 9, 3, 6, 7, 11, 15, 14, 10, 12, 13, 16, 2] : List Int).getD i1 0 ≤ 16 := (by decide : ∀ i < 16, 1 ≤ ([1, 5, 4, 8, 9, 3, 6, 7, 11, 15, 14, 10, 12, 13, 16, 2] : List Int).getD i 0 ∧ ([1, 5, 4, 8, 9, 3, 6, 7, 11, 15, 14, 10, 12, 13, 16, 2] : List Int).getD i 0 ≤ 16) i1 hi1
  rw [← hKA] at hk
  clear hKA
  have HY0 := tuck (HV0.out.only ho (by omega))
  have HO := tuck (HO0.out.trans ho)
  have HR := tuck hrd
  have HB := tuck ((HBY.out.below (below2 w _ _)).only ho hbg)
  clear hrd ho HO0 HV0 HL1
  clear hk
  have HL2 := tuck (ints_new [1, 7, 6, 2, 1] w1 3)
  go_wp2_with fail
  refine (num_any (N := fun i => ([1, 7, 6, 2, 1] : List Int).getD i 0) (o2 := 0) (n := 5) _ hlen (by omega) (by omega) (by omega) (HR.out.below (below1 _ _)) (HB.out.below (below1 _ _)) hbg HL2.out (by have := HO.out.size; omega)).mono ?_
  rintro e w2 ⟨i2, hi2, he, hrd, ho⟩
  obtain ⟨K, hKB⟩ : ∃ K : Int, K = ([1, 7, 6, 2, 1] : List Int).getD i2 0 := ⟨_, rfl⟩
  obtain rfl : e = .returned (.int .i64 K) := by rw [hKB]; exact he
  clear he
  have hk : (1 ≤ ([1, 7, 6, 2, 1] : List Int).getD i2 0 ∧ ([1, 7, 6, 2, 1] : List Int).getD i2 0 ≤ 16) ∧ arity (([1, 7, 6, 2, 1] : List Int).getD i2 0) = 0 := (by decide : ∀ i < 5, (1 ≤ ([1, 7, 6, 2, 1] : List Int).getD i 0 ∧ ([1, 7, 6, 2, 1] : List Int).getD i 0 ≤ 16) ∧ arity (([1, 7, 6, 2, 1] : List Int).getD i 0) = 0) i2 hi2
  rw [← hKB] at hk
  clear hKB
  replace HY0 := tuck ((HY0.out.below (below1 _ (.cells #[.int .i64 1, .int .i64 7, .int .i64 6, .int .i64 2, .int .i64 1] 3))).only ho (by omega))
  replace HO := tuck ((HO.out.alloc (.cells #[.int .i64 1, .int .i64 7, .int .i64 6, .int .i64 2, .int .i64 1] 3)).trans ho)
  replace HR := tuck hrd
  replace HB := tuck ((HB.out.below (below1 _ (.cells #[.int .i64 1, .int .i64 7, .int .i64 6, .int .i64 2, .int .i64 1] 3))).only ho hbg)
  clear hrd ho HL2
  obtain ⟨⟨hk0, hk1⟩, hk2⟩ := hk
  have hD : 2 ≤ depth ∨ arity K = 0 := Or.inr hk2
  clear hk2
  have HD := tuck hD
  clear hD
  obtain ⟨p2, hp2, HRR⟩ : ∃ p2, p2 ≤ p + 2 ∧ Hid (Rd g a len cap p2 w2) := ⟨_, by omega, HR⟩
  clear HR
  have HR := HRR
  clear HRR
  by_cases hms : 0 < mostN K
  ·have gm : decide (0 < mostN K) = true := by simpa using hms
   clear hms
   go_wp2_with (go_at_call 49; refine (most_any K _).mono ?_; rintro e' w' ⟨rfl, rfl⟩)
   have HYt := tuck (VarAt.new w2 K 0 (.slice none 0 0))
   have hzt : w.heap.size ≤ w2.heap.size := HO.out.size
   have hgz : w.heap.size < w2.heap.size := HY0.out.facts.1
   have HL3 : Hid (DInts (fun i => ([0, 1, 0, 2, 1, 3] : List Int).getD i 0) (w2.heap.size + 1) 0 6 ((w2.alloc (.cells #[.int .i64 K, .int .i64 0, .slice none 0 0] 25)).alloc (.cells #[.int .i64 0, .int .i64 1, .int .i64 0, .int .i64 2, .int .i64 1, .int .i64 3] 3))) := by
    have := ints_new [0, 1, 0, 2, 1, 3] (w2.alloc (.cells #[.int .i64 K, .int .i64 0, .slice none 0 0] 25)) 3
    rwa [show (w2.alloc (.cells #[.int .i64 K, .int .i64 0, .slice none 0 0] 25)).heap.size = w2.heap.size + 1 by simp] at this
   refine (num_any (N := fun i => ([0, 1, 0, 2, 1, 3] : List Int).getD i 0) (o2 := 0) (n := 6) _ hlen (by omega) (by omega) (by omega) ((HR.out.below (below1 _ (.cells #[.int .i64 K, .int .i64 0, .slice none 0 0] 25))).below (below1 _ _)) ((HB.out.below (below1 _ (.cells #[.int .i64 K, .int .i64 0, .slice none 0 0] 25))).below (below1 _ _)) hbg HL3.out (by omega)).mono ?_
   rintro e w3 ⟨i3, hi3, he, hrd, ho⟩
   obtain ⟨n0, hn0⟩ : ∃ n0 : Int, n0 = ([0, 1, 0, 2, 1, 3] : List Int).getD i3 0 := ⟨_, rfl⟩
   obtain rfl : e = .returned (.int .i64 n0) := by rw [hn0]; exact he
   clear he hn0
   replace HYt := tuck ((HYt.out.below (below1 _ (.cells #[.int .i64 0, .int .i64 1, .int .i64 0, .int .i64 2, .int .i64 1, .int .i64 3] 3))).only ho (by omega))
   replace HY0 := tuck (((HY0.out.below (below1 _ (.cells #[.int .i64 K, .int .i64 0, .slice none 0 0] 25))).below (below1 _ (.cells #[.int .i64 0, .int .i64 1, .int .i64 0, .int .i64 2, .int .i64 1, .int .i64 3] 3))).only ho (by omega))
   replace HO := tuck (((HO.out.alloc (.cells #[.int .i64 K, .int .i64 0, .slice none 0 0] 25)).alloc (.cells #[.int .i64 0, .int .i64 1, .int .i64 0, .int .i64 2, .int .i64 1, .int .i64 3] 3)).trans ho)
   replace HR := tuck hrd
   replace HB := tuck ((((HB.out.below (below1 _ (.cells #[.int .i64 K, .int .i64 0, .slice none 0 0] 25))).below (below1 _ (.cells #[.int .i64 0, .int .i64 1, .int .i64 0, .int .i64 2, .int .i64 1, .int .i64 3] 3)))).only ho hbg)
   clear hrd ho HL3
   generalize w2.heap.size = gt at *
   obtain ⟨zt, y0, y1, y2, yf⟩ := HYt.out.facts
   go_wp2_with fail
   replace HYt := tuck (HYt.out.setN (n' := n0))
   replace HY0 := tuck (HY0.out.far (p := ⟨gt, 1, none⟩) (show w.heap.size ≠ gt by omega) (.int .i64 n0))
   replace HO := tuck (HO.out.setCell (p := ⟨gt, 1, none⟩) (Or.inr hzt) (.int .i64 n0))
   replace HR := tuck (HR.out.far (i := 1) (u := .int .i64 n0) (show gt ≠ g by omega))
   replace HB : Hid (Bytes U a b o len (w3.setCell ⟨gt, 1, none⟩ (.int .i64 n0))) := tuck (HBY.out.only HO.out hbg)
   clear zt y0 y1 y2 yf
   generalize w3.setCell ⟨gt, 1, none⟩ (.int .i64 n0) = W0 at *
   obtain ⟨p3, hp3, HRR⟩ : ∃ p3, p3 ≤ p + 3 ∧ Hid (Rd g a len cap p3 W0) := ⟨_, by omega, HR⟩
   clear HR
   have HR := HRR
   clear HRR hp2 gm
   try clear hrr
   obtain ⟨m, hm⟩ : ∃ m : Nat, arity K = m := ⟨(arity K).toNat, by have := arity_ge hk0 hk1; omega⟩
   have hm4 : m ≤ 4 := by have := arity_bd K; omega
   have HKA : Hid (∀ w : World, Calls Tryz.prog 48 #[.int .i64 K] w fun e w' => e = .returned (.int .i64 (m : Int)) ∧ w = w') := fun w => by have := kids_any K w; rwa [hm] at this
   rw [hm] at HD
   clear hm
   go_loopw [7] (fun i wr => ∃ (q : Nat) (ts : List Tm) (vl : Value) (F : List Nat) (pq : Nat), q ≤ m ∧ i = .int .i64 q ∧ ts.length = q ∧ sizes ts ≤ q * S ∧ pq ≤ p + 3 + 3 * (q * S) ∧ Only g w wr ∧ VarAt w.heap.size 0 0 (.slice none 0 0) wr ∧ VarAt gt K n0 vl wr ∧ RowG (gt + 1) ts vl F wr ∧ Rd g a len cap pq wr) (fun i _ => m - (intOf i).toNat)
   case atStart => exact ⟨0, [], _, [], p3, Nat.zero_le _, rfl, rfl, by simp [sizes], by omega, HO.out, HY0.out, HYt.out, RowG.nil _ _, HR.out⟩
   case round =>
    obtain ⟨q, ts, vl, F, pq, hq, rfl, hts, hss, hpq, ho, hy0, hyt, hrg, hrd⟩ := hrel
    have HOq := tuck ho
    have HY := tuck hy0
    have HYT := tuck hyt
    have HRG := tuck hrg
    have HRQ := tuck hrd
    have HSS := tuck hss
    have HPQ := tuck hpq
    clear ho hy0 hyt hrg hrd hss hpq HO HY0 HYt HR HB
    obtain ⟨va, vc, hvl⟩ := HRG.out.form
    rw [hts] at hvl
    subst hvl
    obtain ⟨zt, c70, c71, c72, c7f⟩ := HYT.out.facts
    by_cases hlt : q < m
    ·have hlti : ((q : Int) < (m : Int)) := by omega
     have hqi : (0 : Int) ≤ (q : Int) := by omega
     have hdp2 : 2 ≤ depth := by rcases HD.out with h | h <;> omega
     have hW1 : IntKind.i64.wrap (depth - 1) = depth - 1 := IntWalk.i64_in _ (by omega)
     have hqS : q * S ≤ 3 * S := Nat.mul_le_mul_right S (by omega)
     have HC := tuck (HIQ.out hdp2 pq wr.drew (by have := HPQ.out; omega) HRQ.out ((HBY.out.only HOq.out hbg).below (Below.refl _ _).drew))
     obtain ⟨i0, hi0, hz0, hz1, hz2⟩ := info_parts info_termG
     have hq4 : q + 1 ≤ maxLen := by unfold maxLen; omega
     have hqb : (q + 1) * 40 ≤ 140737488355328 := by omega
     clear hqS
     go_wp2_with (go_at_call 48; refine (HKA.out _).mono ?_; rintro e' w' ⟨rfl, rfl⟩)
     have HT12 : ∀ w' : World, (fun w' : World => w'.cell? ⟨gt, 2, none⟩ = some (.slice va q vc)) w' → (fun _ : World => True) w' := fun _ _ => trivial
     refine AnyTwo.begin (fun w' : World => w'.cell? ⟨gt, 2, none⟩ = some (.slice va q vc)) (fun _ : World => True) 7 (by kernel_rfl) ?_
     have hS1 : (fun w' : World => w'.cell? ⟨gt, 2, none⟩ = some (.slice va q vc)) wr.drew := c72
     refine AnyTwo.tk HT12 (i := 0) (oi := ⟨some 31, _, _, _, _, _⟩) rfl (ph_one (by kernel_rfl) hS1) ?_
     try simp only [pts]
     refine AnyTwo.take (i := 1) (oi := ⟨some 32, _, _, _, _, _⟩) (v := ?vsm1) rfl (by kernel_rfl) (by kernel_rfl) (by decide +kernel) (by kernel_rfl) (by rfl) (by kernel_rfl) (fun _ _ _ h => h) (Or.inl ⟨by rfl, ?ysm1⟩) hS1 ?rsm1
     case ysm1 => (intro w hSw; (try dsimp only at hSw); go_simp; try (with_reducible rfl))
     try simp only [pts]
     refine AnyTwo.tk HT12 (i := 2) (oi := ⟨some 33, _, _, _, _, _⟩) rfl (ph_one (by kernel_rfl) hS1) ?_
     try simp only [pts]
     refine AnyTwo.tk HT12 (i := 3) (oi := ⟨some 34, _, _, _, _, _⟩) rfl (ph_one (by kernel_rfl) hS1) ?_
     try simp only [pts]
     refine AnyTwo.tk HT12 (i := 4) (oi := ⟨some 35, _, _, _, _, _⟩) rfl (ph_one (by kernel_rfl) hS1) ?_
     try simp only [pts]
     refine AnyTwo.step (i := 5) (o := ⟨some 36, _, _, _, _, _⟩) (by kernel_rfl) rfl (fun KK hK => ?_)
     go_simp
     refine HC.out.mono ?_
     rintro e3 w3 ⟨T, ts3, F2, p4, rfl, hs2, hn2, hF2, hsz, hp4, hrd4, ho4⟩
     obtain ⟨ta, tc, rfl⟩ := hs2.form
     have ho4' : Only g wr w3 := ⟨ho4.os, ho4.tape, ho4.output, ho4.size, ho4.block⟩
     have HO3 := tuck (HOq.out.trans ho4')
     have HY3 := tuck (HY.out.only ho4' (by omega))
     have HYT3 := tuck (HYT.out.only ho4' (by omega))
     have HRG3 := tuck (HRG.out.only ho4' (by omega))
     have HRD3 := tuck hrd4
     obtain ⟨z7', d70, d71, d72, d7f⟩ := HYT3.out.facts
     have HRG4 := tuck (HRG3.out.below (below1 w3 (.cells #[.int .i64 T.kind, .int .i64 T.num, .slice ta T.kids.length tc] 25)))
     obtain ⟨xs, hox, hpush⟩ := HRG4.out.grow hts
     have HOX := tuck hox
     have HPUSH := tuck hpush
     have HS3 := tuck (hs2.alloc (fun g hg => (hF2 g hg).2) (.cells #[.int .i64 T.kind, .int .i64 T.num, .slice ta T.kids.length tc] 25))
     have HN3 := tuck hn2
     have HF3 : Hid (∀ x ∈ F2, wr.heap.size ≤ x ∧ x < w3.heap.size) := tuck hF2
     have HZS := tuck hsz
     have HP4 := tuck hp4
     have hz34 : wr.heap.size ≤ w3.heap.size := ho4'.size
     have d72' := ((below1 w3 (.cells #[.int .i64 T.kind, .int .i64 T.num, .slice ta T.kids.length tc] 25)).cell (p := ⟨gt, 2, none⟩) z7').trans d72
     have HZ4 : Hid (gt < (w3.alloc (.cells #[.int .i64 T.kind, .int .i64 T.num, .slice ta T.kids.length tc] 25)).heap.size) := tuck (Nat.lt_of_lt_of_le z7' (below1 w3 _).size)
     have HNE : Hid (some gt ≠ (Value.slice va q vc).ownBlock ∧ some w.heap.size ≠ (Value.slice va q vc).ownBlock ∧ some g ≠ (Value.slice va q vc).ownBlock) := by
      have hlo := HRG.out.lt
      refine ⟨fun e => ?_, fun e => ?_, fun e => ?_⟩ <;> (have := (hlo _ e.symm).1; omega)
     clear hox hpush hs2 hn2 hF2 hsz hp4 hrd4 ho4 ho4'
     have hS1' : (fun w' : World => w'.cell? ⟨gt, 2, none⟩ = some (.slice va q vc)) _ := d72
     refine hK.out _ _ (ph_one (by kernel_rfl) hS1') ?_
     clear hK KK hS1
     have hS1 := hS1'
     clear hS1'
     try simp only [pts]
     refine AnyTwo.step (i := 6) (o := ⟨some 37, _, _, _, _, _⟩) (by kernel_rfl) rfl (fun KK hK => ?_)
     go_simp
     have hS1' : (fun w' : World => w'.cell? ⟨gt, 2, none⟩ = some (.slice va q vc)) _ := d72'
     refine hK.out _ _ (ph_one (by kernel_rfl) hS1') ?_
     clear hK KK hS1
     have hS1 := hS1'
     clear hS1'
     try simp only [pts]
     refine AnyTwo.step (i := 7) (o := ⟨some 38, _, _, _, _, _⟩) (by kernel_rfl) rfl (fun KK hK => ?_)
     refine step_append_lies _ (by rfl) _ _ _ (by rfl) (gt + 1) 25 i0 _ 3 40 Tryz.underlying23 hi0 hz0 hz1 hz2 rfl (by omega) _ _ _ (by rfl) HOX.out ⟨w3.heap.size, 0, none⟩ 1 1 [.int .i64 T.kind, .int .i64 T.num, .slice ta T.kids.length tc] (by rfl) (by rfl) (World.news_of_block (cs := #[.int .i64 T.kind, .int .i64 T.num, .slice ta T.kids.length tc]) (t := 25) (fr := (0, 0)) (heap_new w3 _)) (by simp [Value.oneCell']) (by omega) hq4 hqb (by simp; omega) (w3.heap.size + 1) (by simp) ?_
     intro gg gcap w4 hown4 hgrow hat hlt4
     have k70 := (hgrow.cell_far ⟨gt, 2, none⟩ HZ4.out HNE.out.1).trans d72'
     have k7f := (hgrow.frozen_far ⟨gt, 2, none⟩ HZ4.out HNE.out.1).trans (((below1 w3 _).frozen (p := ⟨gt, 2, none⟩) z7').trans (d7f 2))
     refine hK.out _ _ (ph_end (by kernel_rfl) trivial) ?_
     clear hK KK
     try simp only [pts]
     refine AnyTwo.tk HT12 (i := 8) (oi := ⟨some 39, _, _, _, _, _⟩) rfl (ph_end (by kernel_rfl) trivial) ?_
     try simp only [pts]
     refine AnyTwo.step (i := 9) (o := ⟨none, _, _, _, _, _⟩) (by kernel_rfl) rfl (fun KK hK => ?_)
     go_simp
     refine hK.out _ _ (ph_end (by kernel_rfl) trivial) ?_
     clear hK KK
     try simp only [pts]
     refine AnyTwo.done (by kernel_rfl) ?_ _
     clear hS1 HT12 k70 k7f d70 d71 d72 d7f d72' hW1
     go_wp2_with fail
     go_roundw
     case rel =>
      have hflt := HRG.out.flt
      have hlo := HRG3.out.lt
      have hz3 := HF3.out
      have hoA : Only g w w4 := (HO3.out.alloc (.cells #[.int .i64 T.kind, .int .i64 T.num, .slice ta T.kids.length tc] 25)).grown hgrow (fun x hx => by have := (hlo x hx).1; omega)
      refine ⟨q + 1, ts ++ [T], .slice (some ⟨gg, 0, none⟩) (q + 1) gcap, F ++ F2, p4, by omega, by go_num, by simp [hts], ?_, ?_, hoA.setCell (Or.inr (by show w.heap.size ≤ gt; omega)) _, ?_, ?_, ?_, ?_⟩
      ·rw [sizes_append]
       have h1 := HSS.out
       have h2 := HZS.out
       simp only [sizes]
       rw [Nat.add_mul]
       omega
      ·have h1 := HPQ.out
       have h2 := HP4.out
       rw [Nat.add_mul]
       omega
      ·exact (((HY3.out.below (below1 w3 (.cells #[.int .i64 T.kind, .int .i64 T.num, .slice ta T.kids.length tc] 25)))).grown hgrow HNE.out.2.1).far (by show w.heap.size ≠ gt; omega) _
      ·exact ((HYT3.out.below (below1 w3 (.cells #[.int .i64 T.kind, .int .i64 T.num, .slice ta T.kids.length tc] 25))).grown hgrow HNE.out.1).set2
      ·refine (HPUSH.out _ _ F2 w4 T HS3.out HN3.out (fun x hx => ?_) hown4 hgrow (hat.imp (fun h => h.symm) (fun h => by rw [h]; simp [Value.ownBlock]))).setCell (by show gt < gt + 1; omega) _
       have h1 := HF3.out x hx
       have h2 := HRG.out.lt
       refine ⟨by omega, by simp; omega, fun hf => by have := (hflt x hf).2.1; omega, fun e => by have := (h2 x e).2; omega⟩
      ·have hr : Rd g a len cap p4 w4 := (hgrow.block g (Nat.lt_of_lt_of_le HRD3.out.facts.1 (below1 w3 _).size) HNE.out.2.2).trans (HRD3.out.below (below1 w3 (.cells #[.int .i64 T.kind, .int .i64 T.num, .slice ta T.kids.length tc] 25)))
       exact hr.far (show gt ≠ g by omega)
     case measure => simp [intOf]; omega
    ·have hge2 : ¬ ((q : Int) < (m : Int)) := by omega
     have e : q = m := by omega
     subst e
     obtain ⟨z6, c60, c61, c62, c6f⟩ := HY.out.facts
     obtain ⟨G, hG, hGn, hGb⟩ := HRG.out.done (by rw [hts]; unfold maxLen; omega)
     have HG := tuck hG
     have HGn := tuck hGn
     have HGb := tuck hGb
     clear hG hGn hGb
     have hmS : q * S ≤ 4 * S := Nat.mul_le_mul_right S hm4
     have HPE := tuck (HPOST.out (.mk K n0 ts))
     have HTS := tuck hts
     simp only [Tm.kind, Tm.num, Tm.kids, Tm.size] at HPE
     go_wp2_with (go_at_call 48; refine (HKA.out _).mono ?_; rintro e' w' ⟨rfl, rfl⟩)
     refine bodyPost_ret (v := .agg #[.int .i64 K, .int .i64 n0, .slice va q vc]) (by simp [results, Tryz.results63, go_sem, *]) rfl (HPE.out _ _ G pq ?_ HGn.out (fun x hx => ?_) ?_ ?_ ?_ ?_)
     ·exact HG.out.set3 (fun h => by have := (HGb.out _ h).1; omega) _ _ _ _ _ _
     ·rw [size_set3]
      have := HGb.out x hx
      omega
     ·have := HSS.out
      omega
     ·have := HPQ.out
      omega
     ·exact ((HRQ.out.far (show w.heap.size ≠ g by omega)).far (show w.heap.size ≠ g by omega)).far (show w.heap.size ≠ g by omega)
     ·exact ((HOq.out.setCell (Or.inr (Nat.le_refl _)) _).setCell (Or.inr (Nat.le_refl _)) _).setCell (Or.inr (Nat.le_refl _)) _
  ·have gm : decide (0 < mostN K) = false := by simpa using hms
   clear hms
   go_wp2_with (go_at_call 49; refine (most_any K _).mono ?_; rintro e' w' ⟨rfl, rfl⟩)
   have HYt := tuck (VarAt.new w2 K 0 (.slice none 0 0))
   have hzt : w.heap.size ≤ w2.heap.size := HO.out.size
   have hgz : w.heap.size < w2.heap.size := HY0.out.facts.1
   replace HY0 := tuck (HY0.out.below (below1 _ (.cells #[.int .i64 K, .int .i64 0, .slice none 0 0] 25)))
   replace HO := tuck (HO.out.alloc (.cells #[.int .i64 K, .int .i64 0, .slice none 0 0] 25))
   replace HR := tuck (HR.out.below (below1 _ (.cells #[.int .i64 K, .int .i64 0, .slice none 0 0] 25)))
   replace HB := tuck (HB.out.below (below1 _ (.cells #[.int .i64 K, .int .i64 0, .slice none 0 0] 25)))
   generalize w2.alloc (.cells #[.int .i64 K, .int .i64 0, .slice none 0 0] 25) = W0 at *
   generalize w2.heap.size = gt at *
   obtain ⟨n0, hn0⟩ : ∃ n0 : Int, n0 = 0 := ⟨0, rfl⟩
   rw [← hn0] at HYt
   clear hn0
   obtain ⟨p3, hp3, HRR⟩ : ∃ p3, p3 ≤ p + 3 ∧ Hid (Rd g a len cap p3 W0) := ⟨_, by omega, HR⟩
   clear HR
   have HR := HRR
   clear HRR hp2 gm
   try clear hrr
   obtain ⟨m, hm⟩ : ∃ m : Nat, arity K = m := ⟨(arity K).toNat, by have := arity_ge hk0 hk1; omega⟩
   have hm4 : m ≤ 4 := by have := arity_bd K; omega
   have HKA : Hid (∀ w : World, Calls Tryz.prog 48 #[.int .i64 K] w fun e w' => e = .returned (.int .i64 (m : Int)) ∧ w = w') := fun w => by have := kids_any K w; rwa [hm] at this
   rw [hm] at HD
   clear hm
   go_loopw [7] (fun i wr => ∃ (q : Nat) (ts : List Tm) (vl : Value) (F : List Nat) (pq : Nat), q ≤ m ∧ i = .int .i64 q ∧ ts.length = q ∧ sizes ts ≤ q * S ∧ pq ≤ p + 3 + 3 * (q * S) ∧ Only g w wr ∧ VarAt w.heap.size 0 0 (.slice none 0 0) wr ∧ VarAt gt K n0 vl wr ∧ RowG (gt + 1) ts vl F wr ∧ Rd g a len cap pq wr) (fun i _ => m - (intOf i).toNat)
   case atStart => exact ⟨0, [], _, [], p3, Nat.zero_le _, rfl, rfl, by simp [sizes], by omega, HO.out, HY0.out, HYt.out, RowG.nil _ _, HR.out⟩
   case round =>
    obtain ⟨q, ts, vl, F, pq, hq, rfl, hts, hss, hpq, ho, hy0, hyt, hrg, hrd⟩ := hrel
    have HOq := tuck ho
    have HY := tuck hy0
    have HYT := tuck hyt
    have HRG := tuck hrg
    have HRQ := tuck hrd
    have HSS := tuck hss
    have HPQ := tuck hpq
    clear ho hy0 hyt hrg hrd hss hpq HO HY0 HYt HR HB
    obtain ⟨va, vc, hvl⟩ := HRG.out.form
    rw [hts] at hvl
    subst hvl
    obtain ⟨zt, c70, c71, c72, c7f⟩ := HYT.out.facts
    by_cases hlt : q < m
    ·have hlti : ((q : Int) < (m : Int)) := by omega
     have hqi : (0 : Int) ≤ (q : Int) := by omega
     have hdp2 : 2 ≤ depth := by rcases HD.out with h | h <;> omega
     have hW1 : IntKind.i64.wrap (depth - 1) = depth - 1 := IntWalk.i64_in _ (by omega)
     have hqS : q * S ≤ 3 * S := Nat.mul_le_mul_right S (by omega)
     have HC := tuck (HIQ.out hdp2 pq wr.drew (by have := HPQ.out; omega) HRQ.out ((HBY.out.only HOq.out hbg).below (Below.refl _ _).drew))
     obtain ⟨i0, hi0, hz0, hz1, hz2⟩ := info_parts info_termG
     have hq4 : q + 1 ≤ maxLen := by unfold maxLen; omega
     have hqb : (q + 1) * 40 ≤ 140737488355328 := by omega
     clear hqS
     go_wp2_with (go_at_call 48; refine (HKA.out _).mono ?_; rintro e' w' ⟨rfl, rfl⟩)
     have HT12 : ∀ w' : World, (fun w' : World => w'.cell? ⟨gt, 2, none⟩ = some (.slice va q vc)) w' → (fun _ : World => True) w' := fun _ _ => trivial
     refine AnyTwo.begin (fun w' : World => w'.cell? ⟨gt, 2, none⟩ = some (.slice va q vc)) (fun _ : World => True) 7 (by kernel_rfl) ?_
     have hS1 : (fun w' : World => w'.cell? ⟨gt, 2, none⟩ = some (.slice va q vc)) wr.drew := c72
     refine AnyTwo.tk HT12 (i := 0) (oi := ⟨some 31, _, _, _, _, _⟩) rfl (ph_one (by kernel_rfl) hS1) ?_
     try simp only [pts]
     refine AnyTwo.take (i := 1) (oi := ⟨some 32, _, _, _, _, _⟩) (v := ?vsn1) rfl (by kernel_rfl) (by kernel_rfl) (by decide +kernel) (by kernel_rfl) (by rfl) (by kernel_rfl) (fun _ _ _ h => h) (Or.inl ⟨by rfl, ?ysn1⟩) hS1 ?rsn1
     case ysn1 => (intro w hSw; (try dsimp only at hSw); go_simp; try (with_reducible rfl))
     try simp only [pts]
     refine AnyTwo.tk HT12 (i := 2) (oi := ⟨some 33, _, _, _, _, _⟩) rfl (ph_one (by kernel_rfl) hS1) ?_
     try simp only [pts]
     refine AnyTwo.tk HT12 (i := 3) (oi := ⟨some 34, _, _, _, _, _⟩) rfl (ph_one (by kernel_rfl) hS1) ?_
     try simp only [pts]
     refine AnyTwo.tk HT12 (i := 4) (oi := ⟨some 35, _, _, _, _, _⟩) rfl (ph_one (by kernel_rfl) hS1) ?_
     try simp only [pts]
     refine AnyTwo.step (i := 5) (o := ⟨some 36, _, _, _, _, _⟩) (by kernel_rfl) rfl (fun KK hK => ?_)
     go_simp
     refine HC.out.mono ?_
     rintro e3 w3 ⟨T, ts3, F2, p4, rfl, hs2, hn2, hF2, hsz, hp4, hrd4, ho4⟩
     obtain ⟨ta, tc, rfl⟩ := hs2.form
     have ho4' : Only g wr w3 := ⟨ho4.os, ho4.tape, ho4.output, ho4.size, ho4.block⟩
     have HO3 := tuck (HOq.out.trans ho4')
     have HY3 := tuck (HY.out.only ho4' (by omega))
     have HYT3 := tuck (HYT.out.only ho4' (by omega))
     have HRG3 := tuck (HRG.out.only ho4' (by omega))
     have HRD3 := tuck hrd4
     obtain ⟨z7', d70, d71, d72, d7f⟩ := HYT3.out.facts
     have HRG4 := tuck (HRG3.out.below (below1 w3 (.cells #[.int .i64 T.kind, .int .i64 T.num, .slice ta T.kids.length tc] 25)))
     obtain ⟨xs, hox, hpush⟩ := HRG4.out.grow hts
     have HOX := tuck hox
     have HPUSH := tuck hpush
     have HS3 := tuck (hs2.alloc (fun g hg => (hF2 g hg).2) (.cells #[.int .i64 T.kind, .int .i64 T.num, .slice ta T.kids.length tc] 25))
     have HN3 := tuck hn2
     have HF3 : Hid (∀ x ∈ F2, wr.heap.size ≤ x ∧ x < w3.heap.size) := tuck hF2
     have HZS := tuck hsz
     have HP4 := tuck hp4
     have hz34 : wr.heap.size ≤ w3.heap.size := ho4'.size
     have d72' := ((below1 w3 (.cells #[.int .i64 T.kind, .int .i64 T.num, .slice ta T.kids.length tc] 25)).cell (p := ⟨gt, 2, none⟩) z7').trans d72
     have HZ4 : Hid (gt < (w3.alloc (.cells #[.int .i64 T.kind, .int .i64 T.num, .slice ta T.kids.length tc] 25)).heap.size) := tuck (Nat.lt_of_lt_of_le z7' (below1 w3 _).size)
     have HNE : Hid (some gt ≠ (Value.slice va q vc).ownBlock ∧ some w.heap.size ≠ (Value.slice va q vc).ownBlock ∧ some g ≠ (Value.slice va q vc).ownBlock) := by
      have hlo := HRG.out.lt
      refine ⟨fun e => ?_, fun e => ?_, fun e => ?_⟩ <;> (have := (hlo _ e.symm).1; omega)
     clear hox hpush hs2 hn2 hF2 hsz hp4 hrd4 ho4 ho4'
     have hS1' : (fun w' : World => w'.cell? ⟨gt, 2, none⟩ = some (.slice va q vc)) _ := d72
     refine hK.out _ _ (ph_one (by kernel_rfl) hS1') ?_
     clear hK KK hS1
     have hS1 := hS1'
     clear hS1'
     try simp only [pts]
     refine AnyTwo.step (i := 6) (o := ⟨some 37, _, _, _, _, _⟩) (by kernel_rfl) rfl (fun KK hK => ?_)
     go_simp
     have hS1' : (fun w' : World => w'.cell? ⟨gt, 2, none⟩ = some (.slice va q vc)) _ := d72'
     refine hK.out _ _ (ph_one (by kernel_rfl) hS1') ?_
     clear hK KK hS1
     have hS1 := hS1'
     clear hS1'
     try simp only [pts]
     refine AnyTwo.step (i := 7) (o := ⟨some 38, _, _, _, _, _⟩) (by kernel_rfl) rfl (fun KK hK => ?_)
     refine step_append_lies _ (by rfl) _ _ _ (by rfl) (gt + 1) 25 i0 _ 3 40 Tryz.underlying23 hi0 hz0 hz1 hz2 rfl (by omega) _ _ _ (by rfl) HOX.out ⟨w3.heap.size, 0, none⟩ 1 1 [.int .i64 T.kind, .int .i64 T.num, .slice ta T.kids.length tc] (by rfl) (by rfl) (World.news_of_block (cs := #[.int .i64 T.kind, .int .i64 T.num, .slice ta T.kids.length tc]) (t := 25) (fr := (0, 0)) (heap_new w3 _)) (by simp [Value.oneCell']) (by omega) hq4 hqb (by simp; omega) (w3.heap.size + 1) (by simp) ?_
     intro gg gcap w4 hown4 hgrow hat hlt4
     have k70 := (hgrow.cell_far ⟨gt, 2, none⟩ HZ4.out HNE.out.1).trans d72'
     have k7f := (hgrow.frozen_far ⟨gt, 2, none⟩ HZ4.out HNE.out.1).trans (((below1 w3 _).frozen (p := ⟨gt, 2, none⟩) z7').trans (d7f 2))
     refine hK.out _ _ (ph_end (by kernel_rfl) trivial) ?_
     clear hK KK
     try simp only [pts]
     refine AnyTwo.tk HT12 (i := 8) (oi := ⟨some 39, _, _, _, _, _⟩) rfl (ph_end (by kernel_rfl) trivial) ?_
     try simp only [pts]
     refine AnyTwo.step (i := 9) (o := ⟨none, _, _, _, _, _⟩) (by kernel_rfl) rfl (fun KK hK => ?_)
     go_simp
     refine hK.out _ _ (ph_end (by kernel_rfl) trivial) ?_
     clear hK KK
     try simp only [pts]
     refine AnyTwo.done (by kernel_rfl) ?_ _
     clear hS1 HT12 k70 k7f d70 d71 d72 d7f d72' hW1
     go_wp2_with fail
     go_roundw
     case rel =>
      have hflt := HRG.out.flt
      have hlo := HRG3.out.lt
      have hz3 := HF3.out
      have hoA : Only g w w4 := (HO3.out.alloc (.cells #[.int .i64 T.kind, .int .i64 T.num, .slice ta T.kids.length tc] 25)).grown hgrow (fun x hx => by have := (hlo x hx).1; omega)
      refine ⟨q + 1, ts ++ [T], .slice (some ⟨gg, 0, none⟩) (q + 1) gcap, F ++ F2, p4, by omega, by go_num, by simp [hts], ?_, ?_, hoA.setCell (Or.inr (by show w.heap.size ≤ gt; omega)) _, ?_, ?_, ?_, ?_⟩
      ·rw [sizes_append]
       have h1 := HSS.out
       have h2 := HZS.out
       simp only [sizes]
       rw [Nat.add_mul]
       omega
      ·have h1 := HPQ.out
       have h2 := HP4.out
       rw [Nat.add_mul]
       omega
      ·exact (((HY3.out.below (below1 w3 (.cells #[.int .i64 T.kind, .int .i64 T.num, .slice ta T.kids.length tc] 25)))).grown hgrow HNE.out.2.1).far (by show w.heap.size ≠ gt; omega) _
      ·exact ((HYT3.out.below (below1 w3 (.cells #[.int .i64 T.kind, .int .i64 T.num, .slice ta T.kids.length tc] 25))).grown hgrow HNE.out.1).set2
      ·refine (HPUSH.out _ _ F2 w4 T HS3.out HN3.out (fun x hx => ?_) hown4 hgrow (hat.imp (fun h => h.symm) (fun h => by rw [h]; simp [Value.ownBlock]))).setCell (by show gt < gt + 1; omega) _
       have h1 := HF3.out x hx
       have h2 := HRG.out.lt
       refine ⟨by omega, by simp; omega, fun hf => by have := (hflt x hf).2.1; omega, fun e => by have := (h2 x e).2; omega⟩
      ·have hr : Rd g a len cap p4 w4 := (hgrow.block g (Nat.lt_of_lt_of_le HRD3.out.facts.1 (below1 w3 _).size) HNE.out.2.2).trans (HRD3.out.below (below1 w3 (.cells #[.int .i64 T.kind, .int .i64 T.num, .slice ta T.kids.length tc] 25)))
       exact hr.far (show gt ≠ g by omega)
     case measure => simp [intOf]; omega
    ·have hge2 : ¬ ((q : Int) < (m : Int)) := by omega
     have e : q = m := by omega
     subst e
     obtain ⟨z6, c60, c61, c62, c6f⟩ := HY.out.facts
     obtain ⟨G, hG, hGn, hGb⟩ := HRG.out.done (by rw [hts]; unfold maxLen; omega)
     have HG := tuck hG
     have HGn := tuck hGn
     have HGb := tuck hGb
     clear hG hGn hGb
     have hmS : q * S ≤ 4 * S := Nat.mul_le_mul_right S hm4
     have HPE := tuck (HPOST.out (.mk K n0 ts))
     have HTS := tuck hts
     simp only [Tm.kind, Tm.num, Tm.kids, Tm.size] at HPE
     go_wp2_with (go_at_call 48; refine (HKA.out _).mono ?_; rintro e' w' ⟨rfl, rfl⟩)
     refine bodyPost_ret (v := .agg #[.int .i64 K, .int .i64 n0, .slice va q vc]) (by simp [results, Tryz.results63, go_sem, *]) rfl (HPE.out _ _ G pq ?_ HGn.out (fun x hx => ?_) ?_ ?_ ?_ ?_)
     ·exact HG.out.set3 (fun h => by have := (HGb.out _ h).1; omega) _ _ _ _ _ _
     ·rw [size_set3]
      have := HGb.out x hx
      omega
     ·have := HSS.out
      omega
     ·have := HPQ.out
      omega
     ·exact ((HRQ.out.far (show w.heap.size ≠ g by omega)).far (show w.heap.size ≠ g by omega)).far (show w.heap.size ≠ g by omega)
     ·exact ((HOq.out.setCell (Or.inr (Nat.le_refl _)) _).setCell (Or.inr (Nat.le_refl _)) _).setCell (Or.inr (Nat.le_refl _)) _
set_option maxRecDepth 100000 in
set_option maxHeartbeats 3200000 in
theorem ldraw_any {U : Nat → Int} {g b o len cap : Nat} {a : Option Addr} (hlen : len ≤ 2000) (hbg : 0 < len → b ≠ g) : ∀ (n : Nat), n ≤ 4 → ∀ (depth : Int) (p : Nat) (w : World), depth ≤ n → -100 ≤ depth → p + 3 * 5 ^ n ≤ 100000 → Rd g a len cap p w → Bytes U a b o len w →
  Calls Tryz.prog 63 #[.pointer (some ⟨g, 0, none⟩), .int .i64 depth] w (DrawPost g a len cap p (5 ^ n) w) := by
 intro n
 induction n with
 | zero =>
  intro _ depth p w hd0 hd1 hp hrd hby
  have HIQ : Hid (2 ≤ depth → ∀ (q : Nat) (w : World), q + 3 * 0 ≤ 100000 → Rd g a len cap q w → Bytes U a b o len w → Calls Tryz.prog 63 #[.pointer (some ⟨g, 0, none⟩), .int .i64 (depth - 1)] w (DrawPost g a len cap q 0 w)) := fun h => by omega
  exact draw_step hlen hbg depth p 0 (5 ^ 0) w hd1 (by omega) (by decide) hp hrd hby HIQ.out
 | succ n ih =>
  intro hn depth p w hd0 hd1 hp hrd hby
  have h5 : 5 ^ (n + 1) = 5 * 5 ^ n := by rw [Nat.pow_succ]; omega
  have h1 : 1 ≤ 5 ^ n := Nat.one_le_pow _ _ (by decide)
  exact draw_step hlen hbg depth p (5 ^ n) (5 ^ (n + 1)) w hd1 (by omega) (by omega) hp hrd hby (fun h q w' h1 h2 h3 => ih (by omega) (depth - 1) q w' (by omega) (by omega) h1 h2 h3)
end Go.Proofs.YtlbikgnanabjgaaGreat
