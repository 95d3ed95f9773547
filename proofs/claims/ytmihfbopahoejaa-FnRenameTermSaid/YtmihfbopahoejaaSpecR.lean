/-
  spec.l2Rename: the renamed term, in memory of its own. spec.RenameTerm.
-/
import Derived.Test.YtmihfbopahoejaaSpecT
import Derived.Test.YtmihfbopahoejaaInts
import Derived.Test.YtmihfbopahoejaaSpecW
import Derived.Test.YtmihfbopahoejaaRen
namespace Go.Proofs.Ytmihfbopahoejaa
open Go.RowKit

theorem renameL_append (N : Int → Int) (k : Int) : ∀ (a b : List Tm) (i : Nat) (c : Int), renameL N k (a ++ b) i c = renameL N k a i c ++ renameL N k b (i + a.length) c
  | [], b, i, c => by rw [List.nil_append, renameL, List.nil_append]; rfl
  | t :: a, b, i, c => by
    rw [List.cons_append, renameL, renameL, renameL_append N k a b, List.cons_append, List.length_cons, show i + 1 + a.length = i + (a.length + 1) by omega]
theorem renameL_take (N : Int → Int) (k c : Int) {l : List Tm} {q : Nat} (h : q < l.length) : renameL N k (l.take (q + 1)) 0 c = renameL N k (l.take q) 0 c ++ [l[q].rename N (c + under k q)] := by
  rw [List.take_succ_eq_append_getElem h, renameL_append, List.length_take, renameL, renameL, show 0 + min q l.length = q by omega]

set_option maxRecDepth 100000 in
set_option maxHeartbeats 2000000 in
theorem lrename_any {N : Int → Int} {len : Nat} (hNB : ∀ i : Nat, i < len → 0 ≤ N i ∧ N i ≤ 20) (hlen : len ≤ 1000) : ∀ (l : List Tm) (k n c : Int) (w : World) (s nv : Value), -1000000 ≤ n → n ≤ 1000000 → 0 ≤ c → c + hgts l ≤ 1000 → l.length ≤ 1000000 → (∀ t ∈ l, t.allOk) → (Tm.mk k n l).most c ≤ len → SlIn w 0 l s → Ints w 0 N len nv →
    Calls Try.prog 67 #[.agg #[.int .i64 k, .int .i64 n, s], nv, .int .i64 c] w (MadePost w ((Tm.mk k n l).rename N c)) := by
  intro l
  induction l using Tm.ind with
  | h l ih =>
  intro k n c w v nv hn0 hn1 hc0 hc1 hl4 hok hmost hin hni
  obtain ⟨a, cap, bb, o, rfl, hl, hp, hc⟩ := hin.open
  obtain ⟨na, ncap, nb, no, rfl, hnp, hnc⟩ := hni
  have HNI : Hid (Ints w 0 N len (.slice na len ncap)) := tuck ⟨na, ncap, nb, no, rfl, hnp, hnc⟩
  clear hin
  have HI := tuck ih
  have HP := tuck hp
  have HC := tuck hc
  have HOK := tuck hok
  rw [Tm.most] at hmost
  have hml : mostL k l 0 c ≤ len := by omega
  have HML := tuck (fun q (h : q < l.length) => mostL_le hml q h)
  have hmr : k = 1 ∧ c ≤ n → n - c + 1 ≤ len := fun h => by rw [if_pos h] at hmost; omega
  clear hmost
  obtain ⟨N', hN'⟩ : ∃ N', (if k = 1 ∧ c ≤ n then N (n - c) + c else n) = N' := ⟨_, rfl⟩
  have HPOST : Hid (∀ w' s F, Below w.heap.size w w' → SlOwn w' (renameL N k l 0 c) s F → F.Nodup → (∀ g ∈ F, w.heap.size ≤ g ∧ g < w'.heap.size) → MadePost w ((Tm.mk k n l).rename N c) (.returned (.agg #[.int .i64 k, .int .i64 N', s])) w') := fun w' s F a1 a2 a3 a4 => by
    rw [Tm.rename, hN']
    exact ⟨a1, _, rfl, s, F, rfl, a2, a3, a4⟩
  generalize MadePost w ((Tm.mk k n l).rename N c) = post at *
  clear ih hp hc hok
  unfold maxLen at hl
  by_cases h1 : k = 1
  · have g1 : (k == 1) = true := by simpa using h1
    by_cases h2 : c ≤ n
    · obtain ⟨j, hj⟩ : ∃ j : Nat, (j : Int) = n - c := ⟨(n - c).toNat, by omega⟩
      obtain rfl : n = c + j := by omega
      have hjl : j < len := by have := hmr ⟨h1, h2⟩; omega
      rw [if_pos ⟨h1, h2⟩, show c + (j : Int) - c = j by omega] at hN'
      have g2 : decide (c ≤ c + (j : Int)) = true := by simpa using h2
      have hnj := hnc j hjl
      obtain ⟨rfl, _, hnbw⟩ := hnp (by omega)
      obtain ⟨hnj0, hnj1⟩ := hNB j hjl
      have hjlt : ((j : Int) < (len : Int)) := by omega
      have hj0 : (0 : Int) ≤ (j : Int) := by omega
      have hsub : c + (j : Int) - c = j := by omega
      have hnj' := ((below3 w (.cells #[.int .i64 k, .int .i64 (c + (j : Int)), .slice a l.length cap] 25) (.cells #[.int .i64 0, .int .i64 0, .slice none 0 0] 25) (.cells #[.int .i64 k, .int .i64 (c + (j : Int)), .slice none 0 0] 25)).cell (p := ⟨nb, no + j, none⟩) hnbw).trans hnj
      subst hN'
      clear h1 h2 hj hmr hnc hnp
      go_enter Try.func67, Try.ntmps67
      go_wp2_with fail
      have HBW0 := tuck (below3 w (.cells #[.int .i64 k, .int .i64 (c + (j : Int)), .slice a l.length cap] 25) (.cells #[.int .i64 0, .int .i64 0, .slice none 0 0] 25) (.cells #[.int .i64 k, .int .i64 (N (j : Int) + c), .slice none 0 0] 25))
      have HY3 := tuck (((VarAt.new w k (c + (j : Int)) (.slice a l.length cap)).below (below1 _ (.cells #[.int .i64 0, .int .i64 0, .slice none 0 0] 25))).below (below1 _ (.cells #[.int .i64 k, .int .i64 (N (j : Int) + c), .slice none 0 0] 25)))
      have HY6 := tuck ((var_new1 w (.cells #[.int .i64 k, .int .i64 (c + (j : Int)), .slice a l.length cap] 25) 0 0 (.slice none 0 0)).below (below1 _ (.cells #[.int .i64 k, .int .i64 (N (j : Int) + c), .slice none 0 0] 25)))
      have HY7 := tuck (var_new2 w (.cells #[.int .i64 k, .int .i64 (c + (j : Int)), .slice a l.length cap] 25) (.cells #[.int .i64 0, .int .i64 0, .slice none 0 0] 25) k (N (j : Int) + c) (.slice none 0 0))
      have hbw0 : Below w.heap.size w (((w.alloc (.cells #[.int .i64 k, .int .i64 (c + (j : Int)), .slice a l.length cap] 25)).alloc (.cells #[.int .i64 0, .int .i64 0, .slice none 0 0] 25)).alloc (.cells #[.int .i64 k, .int .i64 (N (j : Int) + c), .slice none 0 0] 25)) := HBW0.out
      have hy3 : VarAt w.heap.size k (c + (j : Int)) (.slice a l.length cap) (((w.alloc (.cells #[.int .i64 k, .int .i64 (c + (j : Int)), .slice a l.length cap] 25)).alloc (.cells #[.int .i64 0, .int .i64 0, .slice none 0 0] 25)).alloc (.cells #[.int .i64 k, .int .i64 (N (j : Int) + c), .slice none 0 0] 25)) := HY3.out
      have hy6 : VarAt (w.heap.size + 1) 0 0 (.slice none 0 0) (((w.alloc (.cells #[.int .i64 k, .int .i64 (c + (j : Int)), .slice a l.length cap] 25)).alloc (.cells #[.int .i64 0, .int .i64 0, .slice none 0 0] 25)).alloc (.cells #[.int .i64 k, .int .i64 (N (j : Int) + c), .slice none 0 0] 25)) := HY6.out
      have hy7 : VarAt (w.heap.size + 1 + 1) k (N (j : Int) + c) (.slice none 0 0) (((w.alloc (.cells #[.int .i64 k, .int .i64 (c + (j : Int)), .slice a l.length cap] 25)).alloc (.cells #[.int .i64 0, .int .i64 0, .slice none 0 0] 25)).alloc (.cells #[.int .i64 k, .int .i64 (N (j : Int) + c), .slice none 0 0] 25)) := HY7.out
      clear HBW0 HY3 HY6 HY7
      generalize (((w.alloc (.cells #[.int .i64 k, .int .i64 (c + (j : Int)), .slice a l.length cap] 25)).alloc (.cells #[.int .i64 0, .int .i64 0, .slice none 0 0] 25)).alloc (.cells #[.int .i64 k, .int .i64 (N (j : Int) + c), .slice none 0 0] 25)) = W0 at *
      have HBW0 := tuck hbw0
      have HY3 := tuck hy3
      have HY6 := tuck hy6
      have HY7 := tuck hy7
      clear hbw0 hy3 hy6 hy7 g1
      try clear g2

      go_loopw [8] (fun i wr => ∃ (q : Nat) (vl : Value) (F : List Nat), q ≤ l.length ∧ i = .int .i64 q ∧ Below w.heap.size w wr ∧ VarAt w.heap.size k (c + (j : Int)) (.slice a l.length cap) wr ∧ VarAt (w.heap.size + 1) 0 0 (.slice none 0 0) wr ∧ VarAt (w.heap.size + 1 + 1) k (N (j : Int) + c) vl wr ∧ RowG (w.heap.size + 1 + 1 + 1) (renameL N k (l.take q) 0 c) vl F wr) (fun i _ => l.length - (intOf i).toNat)
      case atStart => exact ⟨0, _, [], Nat.zero_le _, rfl, HBW0.out, HY3.out, HY6.out, HY7.out, RowG.nil _ _⟩
      case round =>
        obtain ⟨q, vl, F, hq, rfl, hb, hy3, hy6, hy7, hrg⟩ := hrel
        have HB := tuck hb
        have HY3 := tuck hy3
        have HY6 := tuck hy6
        have HY7 := tuck hy7
        have HRG := tuck hrg
        clear hb hy3 hy6 hy7 hrg HBW0
        have hLq : (renameL N k (l.take q) 0 c).length = q := by rw [renameL_length, List.length_take]; omega
        obtain ⟨va, vc, rfl⟩ := HRG.out.form' hLq
        obtain ⟨z3, a0, a1, a2, a3f⟩ := HY3.out.facts
        obtain ⟨z7, c70, c71, c72, c7f⟩ := HY7.out.facts
        by_cases hlt : q < l.length
        · have hlti : ((q : Int) < (l.length : Int)) := by omega
          have hqi : (0 : Int) ≤ (q : Int) := by omega
          have hh := mem_hgts' hlt
          have hund := under_01 k q
          have HTK := tuck (renameL_take N k c hlt)
          have hokq : l[q].allOk := HOK.out _ (List.getElem_mem hlt)
          obtain ⟨rfl, _, hbw⟩ := HP.out (by intro e; rw [e] at hlt; simp at hlt)
          obtain ⟨s, c0, c1, c2, hs⟩ := HC.out q hlt
          obtain ⟨sa, sc, rfl⟩ := hs.form
          replace c0 := (HB.out.cell (p := ⟨bb, o + q * 3, none⟩) hbw).trans c0
          replace c1 := (HB.out.cell (p := ⟨bb, o + q * 3 + 1, none⟩) hbw).trans c1
          replace c2 := (HB.out.cell (p := ⟨bb, o + q * 3 + 2, none⟩) hbw).trans c2
          have hbr : bb < wr.heap.size := World.block_lt_of_cell? wr _ c0
          have HS2 := tuck hs
          have HI' := tuck (HI.out q hlt l[q].kind l[q].num)
          rw [Tm.eta] at HI'
          have HMQ : Hid (l[q].most (c + under k q) ≤ len) := by have := HML.out q hlt; rwa [Nat.zero_add] at this
          clear hs HI
          generalize l[q] = y at *
          have hyn := root_num2 (y.allOk_iff.1 hokq).1
          have hyl := root_len (y.allOk_iff.1 hokq).1
          have hyk : ∀ t ∈ y.kids, t.allOk := (allsOk_iff _).1 (y.allOk_iff.1 hokq).2
          have hygt := y.hgt_eq
          have HYN := tuck hyn
          have HYL := tuck hyl
          have HYK := tuck hyk
          have HB3 : Hid (bb ≠ w.heap.size + 1 + 1 ∧ some (w.heap.size + 1 + 1) ≠ (Value.slice va q vc).ownBlock ∧ some (w.heap.size) ≠ (Value.slice va q vc).ownBlock ∧ some bb ≠ (Value.slice va q vc).ownBlock ∧ some (w.heap.size + 1) ≠ (Value.slice va q vc).ownBlock) := by
            have hlo := HRG.out.lt
            refine ⟨by omega, fun e => ?_, fun e => ?_, fun e => ?_, fun e => ?_⟩ <;> (have := (hlo _ e.symm).1; omega)
          have hx0 : (g3x wr (w.heap.size) bb (o + q * 3) k (.slice (some ⟨bb, o, none⟩) l.length cap) (.slice sa y.kids.length sc) y.kind y.num) := ⟨⟨z3, hbr⟩, a0, a2, c0, c1, c2⟩
          unfold g3x at hx0
          have HX0 := tuck hx0
          clear hx0
          have hxc : 0 ≤ c + under k q ∧ c + under k q + hgts y.kids ≤ 1000 := by omega
          have HXC := tuck hxc
          have HW1 : IntKind.i64.wrap (c + under k q) = c + under k q := IntWalk.i64_in _ (by omega)
          have HIQ := tuck (fun w' s' s2 (h' : SlIn w' 0 y.kids s') (h2 : Ints w' 0 N len s2) => HI'.out (c + under k q) w' s' s2 (by have := HYN.out; omega) (by have := HYN.out; omega) HXC.out.1 HXC.out.2 (by have := HYL.out; omega) HYK.out HMQ.out h' h2)
          clear HI'
          generalize y.rename N (c + under k q) = T at *
          clear hxc hund hh hygt hokq hyn hyl hyk HMQ
          obtain ⟨i0, hi0, hz0, hz1, hz2⟩ := info_parts info_termG
          have hq4 : q + 1 ≤ maxLen := by unfold maxLen; omega
          have hqb : (q + 1) * 40 ≤ 140737488355328 := by omega
          go_wp2_with fail
          have HT12 : ∀ w' : World, (fun w' : World => w'.cell? ⟨w.heap.size + 1 + 1, 2, none⟩ = some (.slice va q vc) ∧ ((w.heap.size < w'.heap.size ∧ bb < w'.heap.size) ∧ w'.cell? ⟨w.heap.size, 0, none⟩ = some (.int .i64 k) ∧ w'.cell? ⟨w.heap.size, 2, none⟩ = some (.slice (some ⟨bb, o, none⟩) l.length cap) ∧ w'.cell? ⟨bb, o + q * 3, none⟩ = some (.int .i64 y.kind) ∧ w'.cell? ⟨bb, o + q * 3 + 1, none⟩ = some (.int .i64 y.num) ∧ w'.cell? ⟨bb, o + q * 3 + 2, none⟩ = some (.slice sa y.kids.length sc))) w' → (fun w' : World => (w.heap.size < w'.heap.size ∧ bb < w'.heap.size) ∧ w'.cell? ⟨w.heap.size, 0, none⟩ = some (.int .i64 k) ∧ w'.cell? ⟨w.heap.size, 2, none⟩ = some (.slice (some ⟨bb, o, none⟩) l.length cap) ∧ w'.cell? ⟨bb, o + q * 3, none⟩ = some (.int .i64 y.kind) ∧ w'.cell? ⟨bb, o + q * 3 + 1, none⟩ = some (.int .i64 y.num) ∧ w'.cell? ⟨bb, o + q * 3 + 2, none⟩ = some (.slice sa y.kids.length sc)) w' := fun w' h => h.2
          refine AnyTwo.begin (fun w' : World => w'.cell? ⟨w.heap.size + 1 + 1, 2, none⟩ = some (.slice va q vc) ∧ ((w.heap.size < w'.heap.size ∧ bb < w'.heap.size) ∧ w'.cell? ⟨w.heap.size, 0, none⟩ = some (.int .i64 k) ∧ w'.cell? ⟨w.heap.size, 2, none⟩ = some (.slice (some ⟨bb, o, none⟩) l.length cap) ∧ w'.cell? ⟨bb, o + q * 3, none⟩ = some (.int .i64 y.kind) ∧ w'.cell? ⟨bb, o + q * 3 + 1, none⟩ = some (.int .i64 y.num) ∧ w'.cell? ⟨bb, o + q * 3 + 2, none⟩ = some (.slice sa y.kids.length sc))) (fun w' : World => (w.heap.size < w'.heap.size ∧ bb < w'.heap.size) ∧ w'.cell? ⟨w.heap.size, 0, none⟩ = some (.int .i64 k) ∧ w'.cell? ⟨w.heap.size, 2, none⟩ = some (.slice (some ⟨bb, o, none⟩) l.length cap) ∧ w'.cell? ⟨bb, o + q * 3, none⟩ = some (.int .i64 y.kind) ∧ w'.cell? ⟨bb, o + q * 3 + 1, none⟩ = some (.int .i64 y.num) ∧ w'.cell? ⟨bb, o + q * 3 + 2, none⟩ = some (.slice sa y.kids.length sc)) 16 (by kernel_rfl) ?_
          have hS1 : (fun w' : World => w'.cell? ⟨w.heap.size + 1 + 1, 2, none⟩ = some (.slice va q vc) ∧ ((w.heap.size < w'.heap.size ∧ bb < w'.heap.size) ∧ w'.cell? ⟨w.heap.size, 0, none⟩ = some (.int .i64 k) ∧ w'.cell? ⟨w.heap.size, 2, none⟩ = some (.slice (some ⟨bb, o, none⟩) l.length cap) ∧ w'.cell? ⟨bb, o + q * 3, none⟩ = some (.int .i64 y.kind) ∧ w'.cell? ⟨bb, o + q * 3 + 1, none⟩ = some (.int .i64 y.num) ∧ w'.cell? ⟨bb, o + q * 3 + 2, none⟩ = some (.slice sa y.kids.length sc))) wr.drew := ⟨c72, HX0.out⟩
          refine AnyTwo.takeAny HT12 (i := 0) (oi := { dst := some 40, op := _, type := _, pos := _, after := _, guard := _ }) (v := ?va0) rfl (by kernel_rfl) (by kernel_rfl) (by decide +kernel) (by rfl) (fun _ _ _ h => h) (Or.inl ⟨by rfl, ?ya0⟩) (ph_one (by kernel_rfl) hS1) ?ra0
          case ya0 => (intro w hSw; (try dsimp only at hSw); go_simp; try (with_reducible rfl))
          try simp only [Act.put, List.setIfInBounds_toArray, List.set_cons_zero, List.set_cons_succ]
          refine AnyTwo.take (i := 1) (oi := { dst := some 41, op := _, type := _, pos := _, after := _, guard := _ }) (v := ?va1) rfl (by kernel_rfl) (by kernel_rfl) (by decide +kernel) (by kernel_rfl) (by rfl) (by kernel_rfl) (fun _ _ _ h => h) (Or.inl ⟨by rfl, ?ya1⟩) hS1 ?ra1
          case ya1 => (intro w hSw; (try dsimp only at hSw); go_simp; try (with_reducible rfl))
          try simp only [Act.put, List.setIfInBounds_toArray, List.set_cons_zero, List.set_cons_succ]
          refine AnyTwo.takeAny HT12 (i := 2) (oi := { dst := some 42, op := _, type := _, pos := _, after := _, guard := _ }) (v := ?va2) rfl (by kernel_rfl) (by kernel_rfl) (by decide +kernel) (by rfl) (fun _ _ _ h => h) (Or.inl ⟨by rfl, ?ya2⟩) (ph_one (by kernel_rfl) hS1) ?ra2
          case ya2 => (intro w hSw; (try dsimp only at hSw); go_simp; try (with_reducible rfl))
          try simp only [Act.put, List.setIfInBounds_toArray, List.set_cons_zero, List.set_cons_succ]
          refine AnyTwo.takeAny HT12 (i := 3) (oi := { dst := some 43, op := _, type := _, pos := _, after := _, guard := _ }) (v := ?va3) rfl (by kernel_rfl) (by kernel_rfl) (by decide +kernel) (by rfl) (fun _ _ _ h => h) (Or.inl ⟨by rfl, ?ya3⟩) (ph_one (by kernel_rfl) hS1) ?ra3
          case ya3 => (intro w hSw; (try dsimp only at hSw); go_simp; try (with_reducible rfl))
          try simp only [Act.put, List.setIfInBounds_toArray, List.set_cons_zero, List.set_cons_succ]
          refine AnyTwo.takeAny HT12 (i := 4) (oi := { dst := some 44, op := _, type := _, pos := _, after := _, guard := _ }) (v := ?va4) rfl (by kernel_rfl) (by kernel_rfl) (by decide +kernel) (by rfl) (fun _ _ _ h => h) (Or.inl ⟨by rfl, ?ya4⟩) (ph_one (by kernel_rfl) hS1) ?ra4
          case ya4 => (intro w hSw; (try dsimp only at hSw); go_simp; try (with_reducible rfl))
          try simp only [Act.put, List.setIfInBounds_toArray, List.set_cons_zero, List.set_cons_succ]
          refine AnyTwo.takeAny HT12 (i := 5) (oi := { dst := some 45, op := _, type := _, pos := _, after := _, guard := _ }) (v := ?va5) rfl (by kernel_rfl) (by kernel_rfl) (by decide +kernel) (by rfl) (fun _ _ _ h => h) (Or.inl ⟨by rfl, ?ya5⟩) (ph_one (by kernel_rfl) hS1) ?ra5
          case ya5 => (intro w hSw; (try dsimp only at hSw); go_simp; try (with_reducible rfl))
          try simp only [Act.put, List.setIfInBounds_toArray, List.set_cons_zero, List.set_cons_succ]
          refine AnyTwo.takeAny HT12 (i := 6) (oi := { dst := some 46, op := _, type := _, pos := _, after := _, guard := _ }) (v := ?va6) rfl (by kernel_rfl) (by kernel_rfl) (by decide +kernel) (by rfl) (fun _ _ _ h => h) (Or.inl ⟨by rfl, ?ya6⟩) (ph_one (by kernel_rfl) hS1) ?ra6
          case ya6 => (intro w hSw; (try dsimp only at hSw); go_simp; try (with_reducible rfl))
          try simp only [Act.put, List.setIfInBounds_toArray, List.set_cons_zero, List.set_cons_succ]
          refine AnyTwo.takeAny HT12 (i := 7) (oi := { dst := some 47, op := _, type := _, pos := _, after := _, guard := _ }) (v := ?va7) rfl (by kernel_rfl) (by kernel_rfl) (by decide +kernel) (by rfl) (fun _ _ _ h => h) (Or.inl ⟨by rfl, ?ya7⟩) (ph_one (by kernel_rfl) hS1) ?ra7
          case ya7 => (intro w hSw; (try dsimp only at hSw); go_simp; try (with_reducible rfl))
          try simp only [Act.put, List.setIfInBounds_toArray, List.set_cons_zero, List.set_cons_succ]
          refine AnyTwo.takeAny HT12 (i := 8) (oi := { dst := some 48, op := _, type := _, pos := _, after := _, guard := _ }) (v := ?va8) rfl (by kernel_rfl) (by kernel_rfl) (by decide +kernel) (by rfl) (fun _ _ _ h => h) (Or.inl ⟨by rfl, ?ya8⟩) (ph_one (by kernel_rfl) hS1) ?ra8
          case ya8 => (intro w hSw; (try dsimp only at hSw); go_simp; try (with_reducible rfl))
          try simp only [Act.put, List.setIfInBounds_toArray, List.set_cons_zero, List.set_cons_succ]
          refine AnyTwo.takeAny HT12 (i := 9) (oi := { dst := some 49, op := _, type := _, pos := _, after := _, guard := _ }) (v := ?va9) rfl (by kernel_rfl) (by kernel_rfl) (by decide +kernel) (by rfl) (fun _ _ _ h => h) (Or.inl ⟨by rfl, ?ya9⟩) (ph_one (by kernel_rfl) hS1) ?ra9
          case ya9 => (intro w hSw; (try dsimp only at hSw); go_simp; try (with_reducible rfl))
          try simp only [Act.put, List.setIfInBounds_toArray, List.set_cons_zero, List.set_cons_succ]
          refine AnyTwo.takeAny HT12 (i := 10) (oi := { dst := some 50, op := _, type := _, pos := _, after := _, guard := _ }) (v := ?va10) rfl (by kernel_rfl) (by kernel_rfl) (by decide +kernel) (by rfl) (fun _ _ _ h => h) (Or.inl ⟨by rfl, ?ya10⟩) (ph_one (by kernel_rfl) hS1) ?ra10
          case ya10 => (intro w hSw; (try dsimp only at hSw); go_simp; try (with_reducible rfl))
          try simp only [Act.put, List.setIfInBounds_toArray, List.set_cons_zero, List.set_cons_succ]
          refine AnyTwo.takeAny HT12 (i := 11) (oi := { dst := some 51, op := _, type := _, pos := _, after := _, guard := _ }) (v := ?va11) rfl (by kernel_rfl) (by kernel_rfl) (by decide +kernel) (by rfl) (fun _ _ _ h => h) (Or.inl ⟨by rfl, ?ya11⟩) (ph_one (by kernel_rfl) hS1) ?ra11
          case ya11 => (intro w hSw; (try dsimp only at hSw); go_simp; try (with_reducible rfl))
          try simp only [Act.put, List.setIfInBounds_toArray, List.set_cons_zero, List.set_cons_succ]
          refine AnyTwo.step (i := 12) (o := { dst := some 52, op := _, type := _, pos := _, after := _, guard := _ }) (by kernel_rfl) rfl (fun K hK => ?_)
          go_simp
          refine (under_any k q _).mono ?_
          rintro e2 w2 ⟨rfl, rfl⟩
          have hS1' := hS1
          refine hK.out _ _ (ph_one (by kernel_rfl) hS1') ?_
          clear hK K hS1
          have hS1 := hS1'
          clear hS1'
          try simp only [Act.put, List.setIfInBounds_toArray, List.set_cons_zero, List.set_cons_succ]
          refine AnyTwo.takeAny HT12 (i := 13) (oi := { dst := some 53, op := _, type := _, pos := _, after := _, guard := _ }) (v := ?va13) rfl (by kernel_rfl) (by kernel_rfl) (by decide +kernel) (by rfl) (fun _ _ _ h => h) (Or.inl ⟨by rfl, ?ya13⟩) (ph_one (by kernel_rfl) hS1) ?ra13
          case ya13 => (intro w hSw; (try dsimp only at hSw); go_simp; try (with_reducible rfl))
          try simp only [Act.put, List.setIfInBounds_toArray, List.set_cons_zero, List.set_cons_succ]
          refine AnyTwo.step (i := 14) (o := { dst := some 54, op := _, type := _, pos := _, after := _, guard := _ }) (by kernel_rfl) rfl (fun K hK => ?_)
          go_simp
          refine (HIQ.out _ _ _ (HS2.out.below (bAfter HB.out (Below.refl _ _).drew)) (HNI.out.below (bAfter HB.out (Below.refl _ _).drew))).mono ?_
          rintro e3 w3 ⟨hb3, tv, rfl, ts, F2, rfl, hs2, hn2, hF2⟩
          obtain ⟨ta, tc, rfl⟩ := hs2.form
          have hbd := bAfter (Below.refl wr.heap.size wr).drew hb3
          have HX3 := tuck (hold2_below HX0.out hbd)
          have HBD := tuck hbd
          have HV7 := tuck (HY7.out.below hbd)
          obtain ⟨z7', d70, d71, d72, d7f⟩ := HV7.out.facts
          have HX4 := tuck (hold2_below HX3.out (below1 w3 (.cells #[.int .i64 T.kind, .int .i64 T.num, .slice ta T.kids.length tc] 25)))
          have HRG4 := tuck ((HRG.out.below hbd).below (below1 w3 (.cells #[.int .i64 T.kind, .int .i64 T.num, .slice ta T.kids.length tc] 25)))
          obtain ⟨xs, hox, hpush⟩ := HRG4.out.grow hLq
          have HOX := tuck hox
          have HPUSH := tuck hpush
          have HS3 := tuck (hs2.alloc (fun g hg => (hF2 g hg).2) (.cells #[.int .i64 T.kind, .int .i64 T.num, .slice ta T.kids.length tc] 25))
          have HN3 := tuck hn2
          have HF3 := tuck hF2
          have d72' := ((below1 w3 (.cells #[.int .i64 T.kind, .int .i64 T.num, .slice ta T.kids.length tc] 25)).cell (p := ⟨w.heap.size + 1 + 1, 2, none⟩) z7').trans d72
          have HZ4 : Hid (w.heap.size + 1 + 1 < (w3.alloc (.cells #[.int .i64 T.kind, .int .i64 T.num, .slice ta T.kids.length tc] 25)).heap.size) := tuck (Nat.lt_of_lt_of_le z7' (below1 w3 _).size)
          clear hox hpush hs2 hn2 hF2 hbd hb3
          have hS1' := And.intro d72 HX3.out
          refine hK.out _ _ (ph_one (by kernel_rfl) hS1') ?_
          clear hK K hS1
          have hS1 := hS1'
          clear hS1'
          try simp only [Act.put, List.setIfInBounds_toArray, List.set_cons_zero, List.set_cons_succ]
          refine AnyTwo.step (i := 15) (o := { dst := some 55, op := _, type := _, pos := _, after := _, guard := _ }) (by kernel_rfl) rfl (fun K hK => ?_)
          go_simp
          have hS1' := And.intro d72' HX4.out
          refine hK.out _ _ (ph_one (by kernel_rfl) hS1') ?_
          clear hK K hS1
          have hS1 := hS1'
          clear hS1'
          try simp only [Act.put, List.setIfInBounds_toArray, List.set_cons_zero, List.set_cons_succ]
          refine AnyTwo.step (i := 16) (o := { dst := some 56, op := _, type := _, pos := _, after := _, guard := _ }) (by kernel_rfl) rfl (fun K hK => ?_)
          refine step_append_lies _ (by rfl) _ _ _ (by rfl) (w.heap.size + 1 + 1 + 1) 25 i0 _ 3 40 Try.underlying23 hi0 hz0 hz1 hz2 rfl (by omega) _ _ _ (by rfl) HOX.out ⟨w3.heap.size, 0, none⟩ 1 1 [.int .i64 T.kind, .int .i64 T.num, .slice ta T.kids.length tc] (by rfl) (by rfl) (World.news_of_block (cs := #[.int .i64 T.kind, .int .i64 T.num, .slice ta T.kids.length tc]) (t := 25) (fr := (0, 0)) (heap_new w3 _)) (by simp [Value.oneCell']) (by omega) hq4 hqb (by simp; omega) (w3.heap.size + 1) (by simp) ?_
          intro gg gcap w4 hown4 hgrow hat hlt4
          have k70 := (hgrow.cell_far ⟨w.heap.size + 1 + 1, 2, none⟩ HZ4.out HB3.out.2.1).trans d72'
          have k7f := (hgrow.frozen_far ⟨w.heap.size + 1 + 1, 2, none⟩ HZ4.out HB3.out.2.1).trans (((below1 w3 _).frozen (p := ⟨w.heap.size + 1 + 1, 2, none⟩) z7').trans (d7f 2))
          have HX5 := tuck (hold2_grown HX4.out hgrow ⟨HB3.out.2.2.1, HB3.out.2.2.2.1⟩)
          refine hK.out _ _ (ph_end (by kernel_rfl) (HX5.out)) ?_
          clear hK K
          try simp only [Act.put, List.setIfInBounds_toArray, List.set_cons_zero, List.set_cons_succ]
          refine AnyTwo.takeAny HT12 (i := 17) (oi := { dst := some 57, op := _, type := _, pos := _, after := _, guard := _ }) (v := ?va17) rfl (by kernel_rfl) (by kernel_rfl) (by decide +kernel) (by rfl) (fun _ _ _ h => h) (Or.inl ⟨by rfl, ?ya17⟩) (ph_end (by kernel_rfl) HX5.out) ?ra17
          case ya17 => (intro w hSw; (try dsimp only at hSw); go_simp; try (with_reducible rfl))
          try simp only [Act.put, List.setIfInBounds_toArray, List.set_cons_zero, List.set_cons_succ]
          refine AnyTwo.step (i := 18) (o := { dst := none, op := _, type := _, pos := _, after := _, guard := _ }) (by kernel_rfl) rfl (fun K hK => ?_)
          go_simp
          refine hK.out _ _ (ph_end (by kernel_rfl) (hold2_set HX5.out (p := ⟨w.heap.size + 1 + 1, 2, none⟩) (show w.heap.size + 1 + 1 ≠ w.heap.size by omega) (Ne.symm HB3.out.1))) ?_
          clear hK K
          try simp only [Act.put, List.setIfInBounds_toArray, List.set_cons_zero, List.set_cons_succ]
          refine AnyTwo.done (by kernel_rfl) ?_ _
          have HZ3 : Hid (wr.heap.size ≤ w3.heap.size) := HBD.out.size
          clear d70 d71 d72 d7f z7' d72' hS1 HT12 k70 k7f HW1
          go_wp2_with fail
          go_roundw
          case rel =>
            have hz3 := HZ3.out
            have hdr : wr.drew.heap.size = wr.heap.size := rfl
            have hb4 : Below wr.heap.size wr (w3.alloc (.cells #[.int .i64 T.kind, .int .i64 T.num, .slice ta T.kids.length tc] 25)) := bAfter HBD.out (below1 _ _)
            have hlt := HRG.out.lt
            have hflt := HRG.out.flt
            refine ⟨q + 1, .slice (some ⟨gg, 0, none⟩) (q + 1) gcap, F ++ F2, by omega, by go_num, ?_, ?_, ?_, ?_, ?_⟩
            · exact ((bAfter HB.out hb4).grown hgrow (bAfter HB.out hb4).size (fun g hg => by have := (hlt g hg).1; omega)).setCell (by show w.heap.size ≤ w.heap.size + 1 + 1; omega) _
            · exact ((HY3.out.below hb4).grown hgrow HB3.out.2.2.1).far (by show w.heap.size ≠ w.heap.size + 1 + 1; omega) _
            · exact ((HY6.out.below hb4).grown hgrow HB3.out.2.2.2.2).far (by show w.heap.size + 1 ≠ w.heap.size + 1 + 1; omega) _
            · exact ((HY7.out.below hb4).grown hgrow HB3.out.2.1).set2
            · rw [HTK.out]
              refine (HPUSH.out _ _ F2 w4 T HS3.out HN3.out (fun g hg => ?_) hown4 hgrow (hat.imp (fun h => h.symm) (fun h => by rw [h]; simp [Value.ownBlock]))).setCell (by show w.heap.size + 1 + 1 < w.heap.size + 1 + 1 + 1; omega) _
              have h1 := HF3.out g hg
              refine ⟨by omega, by simp; omega, fun hf => by have := (hflt g hf).2.1; omega, fun e => by have := (hlt g e).2; omega⟩
          case measure => simp [intOf]; omega
        · have hge2 : ¬ ((q : Int) < (l.length : Int)) := by omega
          have e : q = l.length := by omega
          subst e
          obtain ⟨z6, c60, c61, c62, c6f⟩ := HY6.out.facts
          obtain ⟨G, hG, hGn, hGb⟩ := HRG.out.done (by rw [hLq]; unfold maxLen; omega)
          rw [List.take_length] at hG
          go_wp2_with fail
          refine bodyPost_ret (v := .agg #[.int .i64 k, .int .i64 ((N (j : Int) + c)), .slice va l.length vc]) (by simp [results, Try.results67, go_sem, *]) rfl (HPOST.out _ _ G ?_ ?_ hGn fun g hg => ?_)
          · exact bSet3 HB.out (by omega) _ _ _ _ _ _
          · exact hG.set3 (fun h => by have := (hGb _ h).1; omega) _ _ _ _ _ _
          · rw [size_set3]
            have := hGb g hg
            omega
    · have g2 : decide (c ≤ n) = false := by simpa using h2
      obtain rfl : n = N' := by rw [if_neg (fun h => h2 h.2)] at hN'; exact hN'
      clear h1 h2 hmr hnc hnp hN'
      go_enter Try.func67, Try.ntmps67
      go_wp2_with fail
      have HBW0 := tuck (below3 w (.cells #[.int .i64 k, .int .i64 (n), .slice a l.length cap] 25) (.cells #[.int .i64 0, .int .i64 0, .slice none 0 0] 25) (.cells #[.int .i64 k, .int .i64 (n), .slice none 0 0] 25))
      have HY3 := tuck (((VarAt.new w k (n) (.slice a l.length cap)).below (below1 _ (.cells #[.int .i64 0, .int .i64 0, .slice none 0 0] 25))).below (below1 _ (.cells #[.int .i64 k, .int .i64 (n), .slice none 0 0] 25)))
      have HY6 := tuck ((var_new1 w (.cells #[.int .i64 k, .int .i64 (n), .slice a l.length cap] 25) 0 0 (.slice none 0 0)).below (below1 _ (.cells #[.int .i64 k, .int .i64 (n), .slice none 0 0] 25)))
      have HY7 := tuck (var_new2 w (.cells #[.int .i64 k, .int .i64 (n), .slice a l.length cap] 25) (.cells #[.int .i64 0, .int .i64 0, .slice none 0 0] 25) k (n) (.slice none 0 0))
      have hbw0 : Below w.heap.size w (((w.alloc (.cells #[.int .i64 k, .int .i64 (n), .slice a l.length cap] 25)).alloc (.cells #[.int .i64 0, .int .i64 0, .slice none 0 0] 25)).alloc (.cells #[.int .i64 k, .int .i64 (n), .slice none 0 0] 25)) := HBW0.out
      have hy3 : VarAt w.heap.size k (n) (.slice a l.length cap) (((w.alloc (.cells #[.int .i64 k, .int .i64 (n), .slice a l.length cap] 25)).alloc (.cells #[.int .i64 0, .int .i64 0, .slice none 0 0] 25)).alloc (.cells #[.int .i64 k, .int .i64 (n), .slice none 0 0] 25)) := HY3.out
      have hy6 : VarAt (w.heap.size + 1) 0 0 (.slice none 0 0) (((w.alloc (.cells #[.int .i64 k, .int .i64 (n), .slice a l.length cap] 25)).alloc (.cells #[.int .i64 0, .int .i64 0, .slice none 0 0] 25)).alloc (.cells #[.int .i64 k, .int .i64 (n), .slice none 0 0] 25)) := HY6.out
      have hy7 : VarAt (w.heap.size + 1 + 1) k (n) (.slice none 0 0) (((w.alloc (.cells #[.int .i64 k, .int .i64 (n), .slice a l.length cap] 25)).alloc (.cells #[.int .i64 0, .int .i64 0, .slice none 0 0] 25)).alloc (.cells #[.int .i64 k, .int .i64 (n), .slice none 0 0] 25)) := HY7.out
      clear HBW0 HY3 HY6 HY7
      generalize (((w.alloc (.cells #[.int .i64 k, .int .i64 (n), .slice a l.length cap] 25)).alloc (.cells #[.int .i64 0, .int .i64 0, .slice none 0 0] 25)).alloc (.cells #[.int .i64 k, .int .i64 (n), .slice none 0 0] 25)) = W0 at *
      have HBW0 := tuck hbw0
      have HY3 := tuck hy3
      have HY6 := tuck hy6
      have HY7 := tuck hy7
      clear hbw0 hy3 hy6 hy7 g1
      try clear g2

      go_loopw [8] (fun i wr => ∃ (q : Nat) (vl : Value) (F : List Nat), q ≤ l.length ∧ i = .int .i64 q ∧ Below w.heap.size w wr ∧ VarAt w.heap.size k (n) (.slice a l.length cap) wr ∧ VarAt (w.heap.size + 1) 0 0 (.slice none 0 0) wr ∧ VarAt (w.heap.size + 1 + 1) k (n) vl wr ∧ RowG (w.heap.size + 1 + 1 + 1) (renameL N k (l.take q) 0 c) vl F wr) (fun i _ => l.length - (intOf i).toNat)
      case atStart => exact ⟨0, _, [], Nat.zero_le _, rfl, HBW0.out, HY3.out, HY6.out, HY7.out, RowG.nil _ _⟩
      case round =>
        obtain ⟨q, vl, F, hq, rfl, hb, hy3, hy6, hy7, hrg⟩ := hrel
        have HB := tuck hb
        have HY3 := tuck hy3
        have HY6 := tuck hy6
        have HY7 := tuck hy7
        have HRG := tuck hrg
        clear hb hy3 hy6 hy7 hrg HBW0
        have hLq : (renameL N k (l.take q) 0 c).length = q := by rw [renameL_length, List.length_take]; omega
        obtain ⟨va, vc, rfl⟩ := HRG.out.form' hLq
        obtain ⟨z3, a0, a1, a2, a3f⟩ := HY3.out.facts
        obtain ⟨z7, c70, c71, c72, c7f⟩ := HY7.out.facts
        by_cases hlt : q < l.length
        · have hlti : ((q : Int) < (l.length : Int)) := by omega
          have hqi : (0 : Int) ≤ (q : Int) := by omega
          have hh := mem_hgts' hlt
          have hund := under_01 k q
          have HTK := tuck (renameL_take N k c hlt)
          have hokq : l[q].allOk := HOK.out _ (List.getElem_mem hlt)
          obtain ⟨rfl, _, hbw⟩ := HP.out (by intro e; rw [e] at hlt; simp at hlt)
          obtain ⟨s, c0, c1, c2, hs⟩ := HC.out q hlt
          obtain ⟨sa, sc, rfl⟩ := hs.form
          replace c0 := (HB.out.cell (p := ⟨bb, o + q * 3, none⟩) hbw).trans c0
          replace c1 := (HB.out.cell (p := ⟨bb, o + q * 3 + 1, none⟩) hbw).trans c1
          replace c2 := (HB.out.cell (p := ⟨bb, o + q * 3 + 2, none⟩) hbw).trans c2
          have hbr : bb < wr.heap.size := World.block_lt_of_cell? wr _ c0
          have HS2 := tuck hs
          have HI' := tuck (HI.out q hlt l[q].kind l[q].num)
          rw [Tm.eta] at HI'
          have HMQ : Hid (l[q].most (c + under k q) ≤ len) := by have := HML.out q hlt; rwa [Nat.zero_add] at this
          clear hs HI
          generalize l[q] = y at *
          have hyn := root_num2 (y.allOk_iff.1 hokq).1
          have hyl := root_len (y.allOk_iff.1 hokq).1
          have hyk : ∀ t ∈ y.kids, t.allOk := (allsOk_iff _).1 (y.allOk_iff.1 hokq).2
          have hygt := y.hgt_eq
          have HYN := tuck hyn
          have HYL := tuck hyl
          have HYK := tuck hyk
          have HB3 : Hid (bb ≠ w.heap.size + 1 + 1 ∧ some (w.heap.size + 1 + 1) ≠ (Value.slice va q vc).ownBlock ∧ some (w.heap.size) ≠ (Value.slice va q vc).ownBlock ∧ some bb ≠ (Value.slice va q vc).ownBlock ∧ some (w.heap.size + 1) ≠ (Value.slice va q vc).ownBlock) := by
            have hlo := HRG.out.lt
            refine ⟨by omega, fun e => ?_, fun e => ?_, fun e => ?_, fun e => ?_⟩ <;> (have := (hlo _ e.symm).1; omega)
          have hx0 : (g3x wr (w.heap.size) bb (o + q * 3) k (.slice (some ⟨bb, o, none⟩) l.length cap) (.slice sa y.kids.length sc) y.kind y.num) := ⟨⟨z3, hbr⟩, a0, a2, c0, c1, c2⟩
          unfold g3x at hx0
          have HX0 := tuck hx0
          clear hx0
          have hxc : 0 ≤ c + under k q ∧ c + under k q + hgts y.kids ≤ 1000 := by omega
          have HXC := tuck hxc
          have HW1 : IntKind.i64.wrap (c + under k q) = c + under k q := IntWalk.i64_in _ (by omega)
          have HIQ := tuck (fun w' s' s2 (h' : SlIn w' 0 y.kids s') (h2 : Ints w' 0 N len s2) => HI'.out (c + under k q) w' s' s2 (by have := HYN.out; omega) (by have := HYN.out; omega) HXC.out.1 HXC.out.2 (by have := HYL.out; omega) HYK.out HMQ.out h' h2)
          clear HI'
          generalize y.rename N (c + under k q) = T at *
          clear hxc hund hh hygt hokq hyn hyl hyk HMQ
          obtain ⟨i0, hi0, hz0, hz1, hz2⟩ := info_parts info_termG
          have hq4 : q + 1 ≤ maxLen := by unfold maxLen; omega
          have hqb : (q + 1) * 40 ≤ 140737488355328 := by omega
          go_wp2_with fail
          have HT12 : ∀ w' : World, (fun w' : World => w'.cell? ⟨w.heap.size + 1 + 1, 2, none⟩ = some (.slice va q vc) ∧ ((w.heap.size < w'.heap.size ∧ bb < w'.heap.size) ∧ w'.cell? ⟨w.heap.size, 0, none⟩ = some (.int .i64 k) ∧ w'.cell? ⟨w.heap.size, 2, none⟩ = some (.slice (some ⟨bb, o, none⟩) l.length cap) ∧ w'.cell? ⟨bb, o + q * 3, none⟩ = some (.int .i64 y.kind) ∧ w'.cell? ⟨bb, o + q * 3 + 1, none⟩ = some (.int .i64 y.num) ∧ w'.cell? ⟨bb, o + q * 3 + 2, none⟩ = some (.slice sa y.kids.length sc))) w' → (fun w' : World => (w.heap.size < w'.heap.size ∧ bb < w'.heap.size) ∧ w'.cell? ⟨w.heap.size, 0, none⟩ = some (.int .i64 k) ∧ w'.cell? ⟨w.heap.size, 2, none⟩ = some (.slice (some ⟨bb, o, none⟩) l.length cap) ∧ w'.cell? ⟨bb, o + q * 3, none⟩ = some (.int .i64 y.kind) ∧ w'.cell? ⟨bb, o + q * 3 + 1, none⟩ = some (.int .i64 y.num) ∧ w'.cell? ⟨bb, o + q * 3 + 2, none⟩ = some (.slice sa y.kids.length sc)) w' := fun w' h => h.2
          refine AnyTwo.begin (fun w' : World => w'.cell? ⟨w.heap.size + 1 + 1, 2, none⟩ = some (.slice va q vc) ∧ ((w.heap.size < w'.heap.size ∧ bb < w'.heap.size) ∧ w'.cell? ⟨w.heap.size, 0, none⟩ = some (.int .i64 k) ∧ w'.cell? ⟨w.heap.size, 2, none⟩ = some (.slice (some ⟨bb, o, none⟩) l.length cap) ∧ w'.cell? ⟨bb, o + q * 3, none⟩ = some (.int .i64 y.kind) ∧ w'.cell? ⟨bb, o + q * 3 + 1, none⟩ = some (.int .i64 y.num) ∧ w'.cell? ⟨bb, o + q * 3 + 2, none⟩ = some (.slice sa y.kids.length sc))) (fun w' : World => (w.heap.size < w'.heap.size ∧ bb < w'.heap.size) ∧ w'.cell? ⟨w.heap.size, 0, none⟩ = some (.int .i64 k) ∧ w'.cell? ⟨w.heap.size, 2, none⟩ = some (.slice (some ⟨bb, o, none⟩) l.length cap) ∧ w'.cell? ⟨bb, o + q * 3, none⟩ = some (.int .i64 y.kind) ∧ w'.cell? ⟨bb, o + q * 3 + 1, none⟩ = some (.int .i64 y.num) ∧ w'.cell? ⟨bb, o + q * 3 + 2, none⟩ = some (.slice sa y.kids.length sc)) 16 (by kernel_rfl) ?_
          have hS1 : (fun w' : World => w'.cell? ⟨w.heap.size + 1 + 1, 2, none⟩ = some (.slice va q vc) ∧ ((w.heap.size < w'.heap.size ∧ bb < w'.heap.size) ∧ w'.cell? ⟨w.heap.size, 0, none⟩ = some (.int .i64 k) ∧ w'.cell? ⟨w.heap.size, 2, none⟩ = some (.slice (some ⟨bb, o, none⟩) l.length cap) ∧ w'.cell? ⟨bb, o + q * 3, none⟩ = some (.int .i64 y.kind) ∧ w'.cell? ⟨bb, o + q * 3 + 1, none⟩ = some (.int .i64 y.num) ∧ w'.cell? ⟨bb, o + q * 3 + 2, none⟩ = some (.slice sa y.kids.length sc))) wr.drew := ⟨c72, HX0.out⟩
          refine AnyTwo.takeAny HT12 (i := 0) (oi := { dst := some 40, op := _, type := _, pos := _, after := _, guard := _ }) (v := ?vb0) rfl (by kernel_rfl) (by kernel_rfl) (by decide +kernel) (by rfl) (fun _ _ _ h => h) (Or.inl ⟨by rfl, ?yb0⟩) (ph_one (by kernel_rfl) hS1) ?rb0
          case yb0 => (intro w hSw; (try dsimp only at hSw); go_simp; try (with_reducible rfl))
          try simp only [Act.put, List.setIfInBounds_toArray, List.set_cons_zero, List.set_cons_succ]
          refine AnyTwo.take (i := 1) (oi := { dst := some 41, op := _, type := _, pos := _, after := _, guard := _ }) (v := ?vb1) rfl (by kernel_rfl) (by kernel_rfl) (by decide +kernel) (by kernel_rfl) (by rfl) (by kernel_rfl) (fun _ _ _ h => h) (Or.inl ⟨by rfl, ?yb1⟩) hS1 ?rb1
          case yb1 => (intro w hSw; (try dsimp only at hSw); go_simp; try (with_reducible rfl))
          try simp only [Act.put, List.setIfInBounds_toArray, List.set_cons_zero, List.set_cons_succ]
          refine AnyTwo.takeAny HT12 (i := 2) (oi := { dst := some 42, op := _, type := _, pos := _, after := _, guard := _ }) (v := ?vb2) rfl (by kernel_rfl) (by kernel_rfl) (by decide +kernel) (by rfl) (fun _ _ _ h => h) (Or.inl ⟨by rfl, ?yb2⟩) (ph_one (by kernel_rfl) hS1) ?rb2
          case yb2 => (intro w hSw; (try dsimp only at hSw); go_simp; try (with_reducible rfl))
          try simp only [Act.put, List.setIfInBounds_toArray, List.set_cons_zero, List.set_cons_succ]
          refine AnyTwo.takeAny HT12 (i := 3) (oi := { dst := some 43, op := _, type := _, pos := _, after := _, guard := _ }) (v := ?vb3) rfl (by kernel_rfl) (by kernel_rfl) (by decide +kernel) (by rfl) (fun _ _ _ h => h) (Or.inl ⟨by rfl, ?yb3⟩) (ph_one (by kernel_rfl) hS1) ?rb3
          case yb3 => (intro w hSw; (try dsimp only at hSw); go_simp; try (with_reducible rfl))
          try simp only [Act.put, List.setIfInBounds_toArray, List.set_cons_zero, List.set_cons_succ]
          refine AnyTwo.takeAny HT12 (i := 4) (oi := { dst := some 44, op := _, type := _, pos := _, after := _, guard := _ }) (v := ?vb4) rfl (by kernel_rfl) (by kernel_rfl) (by decide +kernel) (by rfl) (fun _ _ _ h => h) (Or.inl ⟨by rfl, ?yb4⟩) (ph_one (by kernel_rfl) hS1) ?rb4
          case yb4 => (intro w hSw; (try dsimp only at hSw); go_simp; try (with_reducible rfl))
          try simp only [Act.put, List.setIfInBounds_toArray, List.set_cons_zero, List.set_cons_succ]
          refine AnyTwo.takeAny HT12 (i := 5) (oi := { dst := some 45, op := _, type := _, pos := _, after := _, guard := _ }) (v := ?vb5) rfl (by kernel_rfl) (by kernel_rfl) (by decide +kernel) (by rfl) (fun _ _ _ h => h) (Or.inl ⟨by rfl, ?yb5⟩) (ph_one (by kernel_rfl) hS1) ?rb5
          case yb5 => (intro w hSw; (try dsimp only at hSw); go_simp; try (with_reducible rfl))
          try simp only [Act.put, List.setIfInBounds_toArray, List.set_cons_zero, List.set_cons_succ]
          refine AnyTwo.takeAny HT12 (i := 6) (oi := { dst := some 46, op := _, type := _, pos := _, after := _, guard := _ }) (v := ?vb6) rfl (by kernel_rfl) (by kernel_rfl) (by decide +kernel) (by rfl) (fun _ _ _ h => h) (Or.inl ⟨by rfl, ?yb6⟩) (ph_one (by kernel_rfl) hS1) ?rb6
          case yb6 => (intro w hSw; (try dsimp only at hSw); go_simp; try (with_reducible rfl))
          try simp only [Act.put, List.setIfInBounds_toArray, List.set_cons_zero, List.set_cons_succ]
          refine AnyTwo.takeAny HT12 (i := 7) (oi := { dst := some 47, op := _, type := _, pos := _, after := _, guard := _ }) (v := ?vb7) rfl (by kernel_rfl) (by kernel_rfl) (by decide +kernel) (by rfl) (fun _ _ _ h => h) (Or.inl ⟨by rfl, ?yb7⟩) (ph_one (by kernel_rfl) hS1) ?rb7
          case yb7 => (intro w hSw; (try dsimp only at hSw); go_simp; try (with_reducible rfl))
          try simp only [Act.put, List.setIfInBounds_toArray, List.set_cons_zero, List.set_cons_succ]
          refine AnyTwo.takeAny HT12 (i := 8) (oi := { dst := some 48, op := _, type := _, pos := _, after := _, guard := _ }) (v := ?vb8) rfl (by kernel_rfl) (by kernel_rfl) (by decide +kernel) (by rfl) (fun _ _ _ h => h) (Or.inl ⟨by rfl, ?yb8⟩) (ph_one (by kernel_rfl) hS1) ?rb8
          case yb8 => (intro w hSw; (try dsimp only at hSw); go_simp; try (with_reducible rfl))
          try simp only [Act.put, List.setIfInBounds_toArray, List.set_cons_zero, List.set_cons_succ]
          refine AnyTwo.takeAny HT12 (i := 9) (oi := { dst := some 49, op := _, type := _, pos := _, after := _, guard := _ }) (v := ?vb9) rfl (by kernel_rfl) (by kernel_rfl) (by decide +kernel) (by rfl) (fun _ _ _ h => h) (Or.inl ⟨by rfl, ?yb9⟩) (ph_one (by kernel_rfl) hS1) ?rb9
          case yb9 => (intro w hSw; (try dsimp only at hSw); go_simp; try (with_reducible rfl))
          try simp only [Act.put, List.setIfInBounds_toArray, List.set_cons_zero, List.set_cons_succ]
          refine AnyTwo.takeAny HT12 (i := 10) (oi := { dst := some 50, op := _, type := _, pos := _, after := _, guard := _ }) (v := ?vb10) rfl (by kernel_rfl) (by kernel_rfl) (by decide +kernel) (by rfl) (fun _ _ _ h => h) (Or.inl ⟨by rfl, ?yb10⟩) (ph_one (by kernel_rfl) hS1) ?rb10
          case yb10 => (intro w hSw; (try dsimp only at hSw); go_simp; try (with_reducible rfl))
          try simp only [Act.put, List.setIfInBounds_toArray, List.set_cons_zero, List.set_cons_succ]
          refine AnyTwo.takeAny HT12 (i := 11) (oi := { dst := some 51, op := _, type := _, pos := _, after := _, guard := _ }) (v := ?vb11) rfl (by kernel_rfl) (by kernel_rfl) (by decide +kernel) (by rfl) (fun _ _ _ h => h) (Or.inl ⟨by rfl, ?yb11⟩) (ph_one (by kernel_rfl) hS1) ?rb11
          case yb11 => (intro w hSw; (try dsimp only at hSw); go_simp; try (with_reducible rfl))
          try simp only [Act.put, List.setIfInBounds_toArray, List.set_cons_zero, List.set_cons_succ]
          refine AnyTwo.step (i := 12) (o := { dst := some 52, op := _, type := _, pos := _, after := _, guard := _ }) (by kernel_rfl) rfl (fun K hK => ?_)
          go_simp
          refine (under_any k q _).mono ?_
          rintro e2 w2 ⟨rfl, rfl⟩
          have hS1' := hS1
          refine hK.out _ _ (ph_one (by kernel_rfl) hS1') ?_
          clear hK K hS1
          have hS1 := hS1'
          clear hS1'
          try simp only [Act.put, List.setIfInBounds_toArray, List.set_cons_zero, List.set_cons_succ]
          refine AnyTwo.takeAny HT12 (i := 13) (oi := { dst := some 53, op := _, type := _, pos := _, after := _, guard := _ }) (v := ?vb13) rfl (by kernel_rfl) (by kernel_rfl) (by decide +kernel) (by rfl) (fun _ _ _ h => h) (Or.inl ⟨by rfl, ?yb13⟩) (ph_one (by kernel_rfl) hS1) ?rb13
          case yb13 => (intro w hSw; (try dsimp only at hSw); go_simp; try (with_reducible rfl))
          try simp only [Act.put, List.setIfInBounds_toArray, List.set_cons_zero, List.set_cons_succ]
          refine AnyTwo.step (i := 14) (o := { dst := some 54, op := _, type := _, pos := _, after := _, guard := _ }) (by kernel_rfl) rfl (fun K hK => ?_)
          go_simp
          refine (HIQ.out _ _ _ (HS2.out.below (bAfter HB.out (Below.refl _ _).drew)) (HNI.out.below (bAfter HB.out (Below.refl _ _).drew))).mono ?_
          rintro e3 w3 ⟨hb3, tv, rfl, ts, F2, rfl, hs2, hn2, hF2⟩
          obtain ⟨ta, tc, rfl⟩ := hs2.form
          have hbd := bAfter (Below.refl wr.heap.size wr).drew hb3
          have HX3 := tuck (hold2_below HX0.out hbd)
          have HBD := tuck hbd
          have HV7 := tuck (HY7.out.below hbd)
          obtain ⟨z7', d70, d71, d72, d7f⟩ := HV7.out.facts
          have HX4 := tuck (hold2_below HX3.out (below1 w3 (.cells #[.int .i64 T.kind, .int .i64 T.num, .slice ta T.kids.length tc] 25)))
          have HRG4 := tuck ((HRG.out.below hbd).below (below1 w3 (.cells #[.int .i64 T.kind, .int .i64 T.num, .slice ta T.kids.length tc] 25)))
          obtain ⟨xs, hox, hpush⟩ := HRG4.out.grow hLq
          have HOX := tuck hox
          have HPUSH := tuck hpush
          have HS3 := tuck (hs2.alloc (fun g hg => (hF2 g hg).2) (.cells #[.int .i64 T.kind, .int .i64 T.num, .slice ta T.kids.length tc] 25))
          have HN3 := tuck hn2
          have HF3 := tuck hF2
          have d72' := ((below1 w3 (.cells #[.int .i64 T.kind, .int .i64 T.num, .slice ta T.kids.length tc] 25)).cell (p := ⟨w.heap.size + 1 + 1, 2, none⟩) z7').trans d72
          have HZ4 : Hid (w.heap.size + 1 + 1 < (w3.alloc (.cells #[.int .i64 T.kind, .int .i64 T.num, .slice ta T.kids.length tc] 25)).heap.size) := tuck (Nat.lt_of_lt_of_le z7' (below1 w3 _).size)
          clear hox hpush hs2 hn2 hF2 hbd hb3
          have hS1' := And.intro d72 HX3.out
          refine hK.out _ _ (ph_one (by kernel_rfl) hS1') ?_
          clear hK K hS1
          have hS1 := hS1'
          clear hS1'
          try simp only [Act.put, List.setIfInBounds_toArray, List.set_cons_zero, List.set_cons_succ]
          refine AnyTwo.step (i := 15) (o := { dst := some 55, op := _, type := _, pos := _, after := _, guard := _ }) (by kernel_rfl) rfl (fun K hK => ?_)
          go_simp
          have hS1' := And.intro d72' HX4.out
          refine hK.out _ _ (ph_one (by kernel_rfl) hS1') ?_
          clear hK K hS1
          have hS1 := hS1'
          clear hS1'
          try simp only [Act.put, List.setIfInBounds_toArray, List.set_cons_zero, List.set_cons_succ]
          refine AnyTwo.step (i := 16) (o := { dst := some 56, op := _, type := _, pos := _, after := _, guard := _ }) (by kernel_rfl) rfl (fun K hK => ?_)
          refine step_append_lies _ (by rfl) _ _ _ (by rfl) (w.heap.size + 1 + 1 + 1) 25 i0 _ 3 40 Try.underlying23 hi0 hz0 hz1 hz2 rfl (by omega) _ _ _ (by rfl) HOX.out ⟨w3.heap.size, 0, none⟩ 1 1 [.int .i64 T.kind, .int .i64 T.num, .slice ta T.kids.length tc] (by rfl) (by rfl) (World.news_of_block (cs := #[.int .i64 T.kind, .int .i64 T.num, .slice ta T.kids.length tc]) (t := 25) (fr := (0, 0)) (heap_new w3 _)) (by simp [Value.oneCell']) (by omega) hq4 hqb (by simp; omega) (w3.heap.size + 1) (by simp) ?_
          intro gg gcap w4 hown4 hgrow hat hlt4
          have k70 := (hgrow.cell_far ⟨w.heap.size + 1 + 1, 2, none⟩ HZ4.out HB3.out.2.1).trans d72'
          have k7f := (hgrow.frozen_far ⟨w.heap.size + 1 + 1, 2, none⟩ HZ4.out HB3.out.2.1).trans (((below1 w3 _).frozen (p := ⟨w.heap.size + 1 + 1, 2, none⟩) z7').trans (d7f 2))
          have HX5 := tuck (hold2_grown HX4.out hgrow ⟨HB3.out.2.2.1, HB3.out.2.2.2.1⟩)
          refine hK.out _ _ (ph_end (by kernel_rfl) (HX5.out)) ?_
          clear hK K
          try simp only [Act.put, List.setIfInBounds_toArray, List.set_cons_zero, List.set_cons_succ]
          refine AnyTwo.takeAny HT12 (i := 17) (oi := { dst := some 57, op := _, type := _, pos := _, after := _, guard := _ }) (v := ?vb17) rfl (by kernel_rfl) (by kernel_rfl) (by decide +kernel) (by rfl) (fun _ _ _ h => h) (Or.inl ⟨by rfl, ?yb17⟩) (ph_end (by kernel_rfl) HX5.out) ?rb17
          case yb17 => (intro w hSw; (try dsimp only at hSw); go_simp; try (with_reducible rfl))
          try simp only [Act.put, List.setIfInBounds_toArray, List.set_cons_zero, List.set_cons_succ]
          refine AnyTwo.step (i := 18) (o := { dst := none, op := _, type := _, pos := _, after := _, guard := _ }) (by kernel_rfl) rfl (fun K hK => ?_)
          go_simp
          refine hK.out _ _ (ph_end (by kernel_rfl) (hold2_set HX5.out (p := ⟨w.heap.size + 1 + 1, 2, none⟩) (show w.heap.size + 1 + 1 ≠ w.heap.size by omega) (Ne.symm HB3.out.1))) ?_
          clear hK K
          try simp only [Act.put, List.setIfInBounds_toArray, List.set_cons_zero, List.set_cons_succ]
          refine AnyTwo.done (by kernel_rfl) ?_ _
          have HZ3 : Hid (wr.heap.size ≤ w3.heap.size) := HBD.out.size
          clear d70 d71 d72 d7f z7' d72' hS1 HT12 k70 k7f HW1
          go_wp2_with fail
          go_roundw
          case rel =>
            have hz3 := HZ3.out
            have hdr : wr.drew.heap.size = wr.heap.size := rfl
            have hb4 : Below wr.heap.size wr (w3.alloc (.cells #[.int .i64 T.kind, .int .i64 T.num, .slice ta T.kids.length tc] 25)) := bAfter HBD.out (below1 _ _)
            have hlt := HRG.out.lt
            have hflt := HRG.out.flt
            refine ⟨q + 1, .slice (some ⟨gg, 0, none⟩) (q + 1) gcap, F ++ F2, by omega, by go_num, ?_, ?_, ?_, ?_, ?_⟩
            · exact ((bAfter HB.out hb4).grown hgrow (bAfter HB.out hb4).size (fun g hg => by have := (hlt g hg).1; omega)).setCell (by show w.heap.size ≤ w.heap.size + 1 + 1; omega) _
            · exact ((HY3.out.below hb4).grown hgrow HB3.out.2.2.1).far (by show w.heap.size ≠ w.heap.size + 1 + 1; omega) _
            · exact ((HY6.out.below hb4).grown hgrow HB3.out.2.2.2.2).far (by show w.heap.size + 1 ≠ w.heap.size + 1 + 1; omega) _
            · exact ((HY7.out.below hb4).grown hgrow HB3.out.2.1).set2
            · rw [HTK.out]
              refine (HPUSH.out _ _ F2 w4 T HS3.out HN3.out (fun g hg => ?_) hown4 hgrow (hat.imp (fun h => h.symm) (fun h => by rw [h]; simp [Value.ownBlock]))).setCell (by show w.heap.size + 1 + 1 < w.heap.size + 1 + 1 + 1; omega) _
              have h1 := HF3.out g hg
              refine ⟨by omega, by simp; omega, fun hf => by have := (hflt g hf).2.1; omega, fun e => by have := (hlt g e).2; omega⟩
          case measure => simp [intOf]; omega
        · have hge2 : ¬ ((q : Int) < (l.length : Int)) := by omega
          have e : q = l.length := by omega
          subst e
          obtain ⟨z6, c60, c61, c62, c6f⟩ := HY6.out.facts
          obtain ⟨G, hG, hGn, hGb⟩ := HRG.out.done (by rw [hLq]; unfold maxLen; omega)
          rw [List.take_length] at hG
          go_wp2_with fail
          refine bodyPost_ret (v := .agg #[.int .i64 k, .int .i64 ((n)), .slice va l.length vc]) (by simp [results, Try.results67, go_sem, *]) rfl (HPOST.out _ _ G ?_ ?_ hGn fun g hg => ?_)
          · exact bSet3 HB.out (by omega) _ _ _ _ _ _
          · exact hG.set3 (fun h => by have := (hGb _ h).1; omega) _ _ _ _ _ _
          · rw [size_set3]
            have := hGb g hg
            omega
  · have g1 : (k == 1) = false := by simpa using h1
    obtain rfl : n = N' := by rw [if_neg (fun h => h1 h.1)] at hN'; exact hN'
    clear h1 hmr hnc hnp hN'
    go_enter Try.func67, Try.ntmps67
    go_wp2_with fail
    have HBW0 := tuck (below3 w (.cells #[.int .i64 k, .int .i64 (n), .slice a l.length cap] 25) (.cells #[.int .i64 0, .int .i64 0, .slice none 0 0] 25) (.cells #[.int .i64 k, .int .i64 (n), .slice none 0 0] 25))
    have HY3 := tuck (((VarAt.new w k (n) (.slice a l.length cap)).below (below1 _ (.cells #[.int .i64 0, .int .i64 0, .slice none 0 0] 25))).below (below1 _ (.cells #[.int .i64 k, .int .i64 (n), .slice none 0 0] 25)))
    have HY6 := tuck ((var_new1 w (.cells #[.int .i64 k, .int .i64 (n), .slice a l.length cap] 25) 0 0 (.slice none 0 0)).below (below1 _ (.cells #[.int .i64 k, .int .i64 (n), .slice none 0 0] 25)))
    have HY7 := tuck (var_new2 w (.cells #[.int .i64 k, .int .i64 (n), .slice a l.length cap] 25) (.cells #[.int .i64 0, .int .i64 0, .slice none 0 0] 25) k (n) (.slice none 0 0))
    have hbw0 : Below w.heap.size w (((w.alloc (.cells #[.int .i64 k, .int .i64 (n), .slice a l.length cap] 25)).alloc (.cells #[.int .i64 0, .int .i64 0, .slice none 0 0] 25)).alloc (.cells #[.int .i64 k, .int .i64 (n), .slice none 0 0] 25)) := HBW0.out
    have hy3 : VarAt w.heap.size k (n) (.slice a l.length cap) (((w.alloc (.cells #[.int .i64 k, .int .i64 (n), .slice a l.length cap] 25)).alloc (.cells #[.int .i64 0, .int .i64 0, .slice none 0 0] 25)).alloc (.cells #[.int .i64 k, .int .i64 (n), .slice none 0 0] 25)) := HY3.out
    have hy6 : VarAt (w.heap.size + 1) 0 0 (.slice none 0 0) (((w.alloc (.cells #[.int .i64 k, .int .i64 (n), .slice a l.length cap] 25)).alloc (.cells #[.int .i64 0, .int .i64 0, .slice none 0 0] 25)).alloc (.cells #[.int .i64 k, .int .i64 (n), .slice none 0 0] 25)) := HY6.out
    have hy7 : VarAt (w.heap.size + 1 + 1) k (n) (.slice none 0 0) (((w.alloc (.cells #[.int .i64 k, .int .i64 (n), .slice a l.length cap] 25)).alloc (.cells #[.int .i64 0, .int .i64 0, .slice none 0 0] 25)).alloc (.cells #[.int .i64 k, .int .i64 (n), .slice none 0 0] 25)) := HY7.out
    clear HBW0 HY3 HY6 HY7
    generalize (((w.alloc (.cells #[.int .i64 k, .int .i64 (n), .slice a l.length cap] 25)).alloc (.cells #[.int .i64 0, .int .i64 0, .slice none 0 0] 25)).alloc (.cells #[.int .i64 k, .int .i64 (n), .slice none 0 0] 25)) = W0 at *
    have HBW0 := tuck hbw0
    have HY3 := tuck hy3
    have HY6 := tuck hy6
    have HY7 := tuck hy7
    clear hbw0 hy3 hy6 hy7 g1
    try clear g2

    go_loopw [8] (fun i wr => ∃ (q : Nat) (vl : Value) (F : List Nat), q ≤ l.length ∧ i = .int .i64 q ∧ Below w.heap.size w wr ∧ VarAt w.heap.size k (n) (.slice a l.length cap) wr ∧ VarAt (w.heap.size + 1) 0 0 (.slice none 0 0) wr ∧ VarAt (w.heap.size + 1 + 1) k (n) vl wr ∧ RowG (w.heap.size + 1 + 1 + 1) (renameL N k (l.take q) 0 c) vl F wr) (fun i _ => l.length - (intOf i).toNat)
    case atStart => exact ⟨0, _, [], Nat.zero_le _, rfl, HBW0.out, HY3.out, HY6.out, HY7.out, RowG.nil _ _⟩
    case round =>
      obtain ⟨q, vl, F, hq, rfl, hb, hy3, hy6, hy7, hrg⟩ := hrel
      have HB := tuck hb
      have HY3 := tuck hy3
      have HY6 := tuck hy6
      have HY7 := tuck hy7
      have HRG := tuck hrg
      clear hb hy3 hy6 hy7 hrg HBW0
      have hLq : (renameL N k (l.take q) 0 c).length = q := by rw [renameL_length, List.length_take]; omega
      obtain ⟨va, vc, rfl⟩ := HRG.out.form' hLq
      obtain ⟨z3, a0, a1, a2, a3f⟩ := HY3.out.facts
      obtain ⟨z7, c70, c71, c72, c7f⟩ := HY7.out.facts
      by_cases hlt : q < l.length
      · have hlti : ((q : Int) < (l.length : Int)) := by omega
        have hqi : (0 : Int) ≤ (q : Int) := by omega
        have hh := mem_hgts' hlt
        have hund := under_01 k q
        have HTK := tuck (renameL_take N k c hlt)
        have hokq : l[q].allOk := HOK.out _ (List.getElem_mem hlt)
        obtain ⟨rfl, _, hbw⟩ := HP.out (by intro e; rw [e] at hlt; simp at hlt)
        obtain ⟨s, c0, c1, c2, hs⟩ := HC.out q hlt
        obtain ⟨sa, sc, rfl⟩ := hs.form
        replace c0 := (HB.out.cell (p := ⟨bb, o + q * 3, none⟩) hbw).trans c0
        replace c1 := (HB.out.cell (p := ⟨bb, o + q * 3 + 1, none⟩) hbw).trans c1
        replace c2 := (HB.out.cell (p := ⟨bb, o + q * 3 + 2, none⟩) hbw).trans c2
        have hbr : bb < wr.heap.size := World.block_lt_of_cell? wr _ c0
        have HS2 := tuck hs
        have HI' := tuck (HI.out q hlt l[q].kind l[q].num)
        rw [Tm.eta] at HI'
        have HMQ : Hid (l[q].most (c + under k q) ≤ len) := by have := HML.out q hlt; rwa [Nat.zero_add] at this
        clear hs HI
        generalize l[q] = y at *
        have hyn := root_num2 (y.allOk_iff.1 hokq).1
        have hyl := root_len (y.allOk_iff.1 hokq).1
        have hyk : ∀ t ∈ y.kids, t.allOk := (allsOk_iff _).1 (y.allOk_iff.1 hokq).2
        have hygt := y.hgt_eq
        have HYN := tuck hyn
        have HYL := tuck hyl
        have HYK := tuck hyk
        have HB3 : Hid (bb ≠ w.heap.size + 1 + 1 ∧ some (w.heap.size + 1 + 1) ≠ (Value.slice va q vc).ownBlock ∧ some (w.heap.size) ≠ (Value.slice va q vc).ownBlock ∧ some bb ≠ (Value.slice va q vc).ownBlock ∧ some (w.heap.size + 1) ≠ (Value.slice va q vc).ownBlock) := by
          have hlo := HRG.out.lt
          refine ⟨by omega, fun e => ?_, fun e => ?_, fun e => ?_, fun e => ?_⟩ <;> (have := (hlo _ e.symm).1; omega)
        have hx0 : (g3x wr (w.heap.size) bb (o + q * 3) k (.slice (some ⟨bb, o, none⟩) l.length cap) (.slice sa y.kids.length sc) y.kind y.num) := ⟨⟨z3, hbr⟩, a0, a2, c0, c1, c2⟩
        unfold g3x at hx0
        have HX0 := tuck hx0
        clear hx0
        have hxc : 0 ≤ c + under k q ∧ c + under k q + hgts y.kids ≤ 1000 := by omega
        have HXC := tuck hxc
        have HW1 : IntKind.i64.wrap (c + under k q) = c + under k q := IntWalk.i64_in _ (by omega)
        have HIQ := tuck (fun w' s' s2 (h' : SlIn w' 0 y.kids s') (h2 : Ints w' 0 N len s2) => HI'.out (c + under k q) w' s' s2 (by have := HYN.out; omega) (by have := HYN.out; omega) HXC.out.1 HXC.out.2 (by have := HYL.out; omega) HYK.out HMQ.out h' h2)
        clear HI'
        generalize y.rename N (c + under k q) = T at *
        clear hxc hund hh hygt hokq hyn hyl hyk HMQ
        obtain ⟨i0, hi0, hz0, hz1, hz2⟩ := info_parts info_termG
        have hq4 : q + 1 ≤ maxLen := by unfold maxLen; omega
        have hqb : (q + 1) * 40 ≤ 140737488355328 := by omega
        go_wp2_with fail
        have HT12 : ∀ w' : World, (fun w' : World => w'.cell? ⟨w.heap.size + 1 + 1, 2, none⟩ = some (.slice va q vc) ∧ ((w.heap.size < w'.heap.size ∧ bb < w'.heap.size) ∧ w'.cell? ⟨w.heap.size, 0, none⟩ = some (.int .i64 k) ∧ w'.cell? ⟨w.heap.size, 2, none⟩ = some (.slice (some ⟨bb, o, none⟩) l.length cap) ∧ w'.cell? ⟨bb, o + q * 3, none⟩ = some (.int .i64 y.kind) ∧ w'.cell? ⟨bb, o + q * 3 + 1, none⟩ = some (.int .i64 y.num) ∧ w'.cell? ⟨bb, o + q * 3 + 2, none⟩ = some (.slice sa y.kids.length sc))) w' → (fun w' : World => (w.heap.size < w'.heap.size ∧ bb < w'.heap.size) ∧ w'.cell? ⟨w.heap.size, 0, none⟩ = some (.int .i64 k) ∧ w'.cell? ⟨w.heap.size, 2, none⟩ = some (.slice (some ⟨bb, o, none⟩) l.length cap) ∧ w'.cell? ⟨bb, o + q * 3, none⟩ = some (.int .i64 y.kind) ∧ w'.cell? ⟨bb, o + q * 3 + 1, none⟩ = some (.int .i64 y.num) ∧ w'.cell? ⟨bb, o + q * 3 + 2, none⟩ = some (.slice sa y.kids.length sc)) w' := fun w' h => h.2
        refine AnyTwo.begin (fun w' : World => w'.cell? ⟨w.heap.size + 1 + 1, 2, none⟩ = some (.slice va q vc) ∧ ((w.heap.size < w'.heap.size ∧ bb < w'.heap.size) ∧ w'.cell? ⟨w.heap.size, 0, none⟩ = some (.int .i64 k) ∧ w'.cell? ⟨w.heap.size, 2, none⟩ = some (.slice (some ⟨bb, o, none⟩) l.length cap) ∧ w'.cell? ⟨bb, o + q * 3, none⟩ = some (.int .i64 y.kind) ∧ w'.cell? ⟨bb, o + q * 3 + 1, none⟩ = some (.int .i64 y.num) ∧ w'.cell? ⟨bb, o + q * 3 + 2, none⟩ = some (.slice sa y.kids.length sc))) (fun w' : World => (w.heap.size < w'.heap.size ∧ bb < w'.heap.size) ∧ w'.cell? ⟨w.heap.size, 0, none⟩ = some (.int .i64 k) ∧ w'.cell? ⟨w.heap.size, 2, none⟩ = some (.slice (some ⟨bb, o, none⟩) l.length cap) ∧ w'.cell? ⟨bb, o + q * 3, none⟩ = some (.int .i64 y.kind) ∧ w'.cell? ⟨bb, o + q * 3 + 1, none⟩ = some (.int .i64 y.num) ∧ w'.cell? ⟨bb, o + q * 3 + 2, none⟩ = some (.slice sa y.kids.length sc)) 16 (by kernel_rfl) ?_
        have hS1 : (fun w' : World => w'.cell? ⟨w.heap.size + 1 + 1, 2, none⟩ = some (.slice va q vc) ∧ ((w.heap.size < w'.heap.size ∧ bb < w'.heap.size) ∧ w'.cell? ⟨w.heap.size, 0, none⟩ = some (.int .i64 k) ∧ w'.cell? ⟨w.heap.size, 2, none⟩ = some (.slice (some ⟨bb, o, none⟩) l.length cap) ∧ w'.cell? ⟨bb, o + q * 3, none⟩ = some (.int .i64 y.kind) ∧ w'.cell? ⟨bb, o + q * 3 + 1, none⟩ = some (.int .i64 y.num) ∧ w'.cell? ⟨bb, o + q * 3 + 2, none⟩ = some (.slice sa y.kids.length sc))) wr.drew := ⟨c72, HX0.out⟩
        refine AnyTwo.takeAny HT12 (i := 0) (oi := { dst := some 40, op := _, type := _, pos := _, after := _, guard := _ }) (v := ?vc0) rfl (by kernel_rfl) (by kernel_rfl) (by decide +kernel) (by rfl) (fun _ _ _ h => h) (Or.inl ⟨by rfl, ?yc0⟩) (ph_one (by kernel_rfl) hS1) ?rc0
        case yc0 => (intro w hSw; (try dsimp only at hSw); go_simp; try (with_reducible rfl))
        try simp only [Act.put, List.setIfInBounds_toArray, List.set_cons_zero, List.set_cons_succ]
        refine AnyTwo.take (i := 1) (oi := { dst := some 41, op := _, type := _, pos := _, after := _, guard := _ }) (v := ?vc1) rfl (by kernel_rfl) (by kernel_rfl) (by decide +kernel) (by kernel_rfl) (by rfl) (by kernel_rfl) (fun _ _ _ h => h) (Or.inl ⟨by rfl, ?yc1⟩) hS1 ?rc1
        case yc1 => (intro w hSw; (try dsimp only at hSw); go_simp; try (with_reducible rfl))
        try simp only [Act.put, List.setIfInBounds_toArray, List.set_cons_zero, List.set_cons_succ]
        refine AnyTwo.takeAny HT12 (i := 2) (oi := { dst := some 42, op := _, type := _, pos := _, after := _, guard := _ }) (v := ?vc2) rfl (by kernel_rfl) (by kernel_rfl) (by decide +kernel) (by rfl) (fun _ _ _ h => h) (Or.inl ⟨by rfl, ?yc2⟩) (ph_one (by kernel_rfl) hS1) ?rc2
        case yc2 => (intro w hSw; (try dsimp only at hSw); go_simp; try (with_reducible rfl))
        try simp only [Act.put, List.setIfInBounds_toArray, List.set_cons_zero, List.set_cons_succ]
        refine AnyTwo.takeAny HT12 (i := 3) (oi := { dst := some 43, op := _, type := _, pos := _, after := _, guard := _ }) (v := ?vc3) rfl (by kernel_rfl) (by kernel_rfl) (by decide +kernel) (by rfl) (fun _ _ _ h => h) (Or.inl ⟨by rfl, ?yc3⟩) (ph_one (by kernel_rfl) hS1) ?rc3
        case yc3 => (intro w hSw; (try dsimp only at hSw); go_simp; try (with_reducible rfl))
        try simp only [Act.put, List.setIfInBounds_toArray, List.set_cons_zero, List.set_cons_succ]
        refine AnyTwo.takeAny HT12 (i := 4) (oi := { dst := some 44, op := _, type := _, pos := _, after := _, guard := _ }) (v := ?vc4) rfl (by kernel_rfl) (by kernel_rfl) (by decide +kernel) (by rfl) (fun _ _ _ h => h) (Or.inl ⟨by rfl, ?yc4⟩) (ph_one (by kernel_rfl) hS1) ?rc4
        case yc4 => (intro w hSw; (try dsimp only at hSw); go_simp; try (with_reducible rfl))
        try simp only [Act.put, List.setIfInBounds_toArray, List.set_cons_zero, List.set_cons_succ]
        refine AnyTwo.takeAny HT12 (i := 5) (oi := { dst := some 45, op := _, type := _, pos := _, after := _, guard := _ }) (v := ?vc5) rfl (by kernel_rfl) (by kernel_rfl) (by decide +kernel) (by rfl) (fun _ _ _ h => h) (Or.inl ⟨by rfl, ?yc5⟩) (ph_one (by kernel_rfl) hS1) ?rc5
        case yc5 => (intro w hSw; (try dsimp only at hSw); go_simp; try (with_reducible rfl))
        try simp only [Act.put, List.setIfInBounds_toArray, List.set_cons_zero, List.set_cons_succ]
        refine AnyTwo.takeAny HT12 (i := 6) (oi := { dst := some 46, op := _, type := _, pos := _, after := _, guard := _ }) (v := ?vc6) rfl (by kernel_rfl) (by kernel_rfl) (by decide +kernel) (by rfl) (fun _ _ _ h => h) (Or.inl ⟨by rfl, ?yc6⟩) (ph_one (by kernel_rfl) hS1) ?rc6
        case yc6 => (intro w hSw; (try dsimp only at hSw); go_simp; try (with_reducible rfl))
        try simp only [Act.put, List.setIfInBounds_toArray, List.set_cons_zero, List.set_cons_succ]
        refine AnyTwo.takeAny HT12 (i := 7) (oi := { dst := some 47, op := _, type := _, pos := _, after := _, guard := _ }) (v := ?vc7) rfl (by kernel_rfl) (by kernel_rfl) (by decide +kernel) (by rfl) (fun _ _ _ h => h) (Or.inl ⟨by rfl, ?yc7⟩) (ph_one (by kernel_rfl) hS1) ?rc7
        case yc7 => (intro w hSw; (try dsimp only at hSw); go_simp; try (with_reducible rfl))
        try simp only [Act.put, List.setIfInBounds_toArray, List.set_cons_zero, List.set_cons_succ]
        refine AnyTwo.takeAny HT12 (i := 8) (oi := { dst := some 48, op := _, type := _, pos := _, after := _, guard := _ }) (v := ?vc8) rfl (by kernel_rfl) (by kernel_rfl) (by decide +kernel) (by rfl) (fun _ _ _ h => h) (Or.inl ⟨by rfl, ?yc8⟩) (ph_one (by kernel_rfl) hS1) ?rc8
        case yc8 => (intro w hSw; (try dsimp only at hSw); go_simp; try (with_reducible rfl))
        try simp only [Act.put, List.setIfInBounds_toArray, List.set_cons_zero, List.set_cons_succ]
        refine AnyTwo.takeAny HT12 (i := 9) (oi := { dst := some 49, op := _, type := _, pos := _, after := _, guard := _ }) (v := ?vc9) rfl (by kernel_rfl) (by kernel_rfl) (by decide +kernel) (by rfl) (fun _ _ _ h => h) (Or.inl ⟨by rfl, ?yc9⟩) (ph_one (by kernel_rfl) hS1) ?rc9
        case yc9 => (intro w hSw; (try dsimp only at hSw); go_simp; try (with_reducible rfl))
        try simp only [Act.put, List.setIfInBounds_toArray, List.set_cons_zero, List.set_cons_succ]
        refine AnyTwo.takeAny HT12 (i := 10) (oi := { dst := some 50, op := _, type := _, pos := _, after := _, guard := _ }) (v := ?vc10) rfl (by kernel_rfl) (by kernel_rfl) (by decide +kernel) (by rfl) (fun _ _ _ h => h) (Or.inl ⟨by rfl, ?yc10⟩) (ph_one (by kernel_rfl) hS1) ?rc10
        case yc10 => (intro w hSw; (try dsimp only at hSw); go_simp; try (with_reducible rfl))
        try simp only [Act.put, List.setIfInBounds_toArray, List.set_cons_zero, List.set_cons_succ]
        refine AnyTwo.takeAny HT12 (i := 11) (oi := { dst := some 51, op := _, type := _, pos := _, after := _, guard := _ }) (v := ?vc11) rfl (by kernel_rfl) (by kernel_rfl) (by decide +kernel) (by rfl) (fun _ _ _ h => h) (Or.inl ⟨by rfl, ?yc11⟩) (ph_one (by kernel_rfl) hS1) ?rc11
        case yc11 => (intro w hSw; (try dsimp only at hSw); go_simp; try (with_reducible rfl))
        try simp only [Act.put, List.setIfInBounds_toArray, List.set_cons_zero, List.set_cons_succ]
        refine AnyTwo.step (i := 12) (o := { dst := some 52, op := _, type := _, pos := _, after := _, guard := _ }) (by kernel_rfl) rfl (fun K hK => ?_)
        go_simp
        refine (under_any k q _).mono ?_
        rintro e2 w2 ⟨rfl, rfl⟩
        have hS1' := hS1
        refine hK.out _ _ (ph_one (by kernel_rfl) hS1') ?_
        clear hK K hS1
        have hS1 := hS1'
        clear hS1'
        try simp only [Act.put, List.setIfInBounds_toArray, List.set_cons_zero, List.set_cons_succ]
        refine AnyTwo.takeAny HT12 (i := 13) (oi := { dst := some 53, op := _, type := _, pos := _, after := _, guard := _ }) (v := ?vc13) rfl (by kernel_rfl) (by kernel_rfl) (by decide +kernel) (by rfl) (fun _ _ _ h => h) (Or.inl ⟨by rfl, ?yc13⟩) (ph_one (by kernel_rfl) hS1) ?rc13
        case yc13 => (intro w hSw; (try dsimp only at hSw); go_simp; try (with_reducible rfl))
        try simp only [Act.put, List.setIfInBounds_toArray, List.set_cons_zero, List.set_cons_succ]
        refine AnyTwo.step (i := 14) (o := { dst := some 54, op := _, type := _, pos := _, after := _, guard := _ }) (by kernel_rfl) rfl (fun K hK => ?_)
        go_simp
        refine (HIQ.out _ _ _ (HS2.out.below (bAfter HB.out (Below.refl _ _).drew)) (HNI.out.below (bAfter HB.out (Below.refl _ _).drew))).mono ?_
        rintro e3 w3 ⟨hb3, tv, rfl, ts, F2, rfl, hs2, hn2, hF2⟩
        obtain ⟨ta, tc, rfl⟩ := hs2.form
        have hbd := bAfter (Below.refl wr.heap.size wr).drew hb3
        have HX3 := tuck (hold2_below HX0.out hbd)
        have HBD := tuck hbd
        have HV7 := tuck (HY7.out.below hbd)
        obtain ⟨z7', d70, d71, d72, d7f⟩ := HV7.out.facts
        have HX4 := tuck (hold2_below HX3.out (below1 w3 (.cells #[.int .i64 T.kind, .int .i64 T.num, .slice ta T.kids.length tc] 25)))
        have HRG4 := tuck ((HRG.out.below hbd).below (below1 w3 (.cells #[.int .i64 T.kind, .int .i64 T.num, .slice ta T.kids.length tc] 25)))
        obtain ⟨xs, hox, hpush⟩ := HRG4.out.grow hLq
        have HOX := tuck hox
        have HPUSH := tuck hpush
        have HS3 := tuck (hs2.alloc (fun g hg => (hF2 g hg).2) (.cells #[.int .i64 T.kind, .int .i64 T.num, .slice ta T.kids.length tc] 25))
        have HN3 := tuck hn2
        have HF3 := tuck hF2
        have d72' := ((below1 w3 (.cells #[.int .i64 T.kind, .int .i64 T.num, .slice ta T.kids.length tc] 25)).cell (p := ⟨w.heap.size + 1 + 1, 2, none⟩) z7').trans d72
        have HZ4 : Hid (w.heap.size + 1 + 1 < (w3.alloc (.cells #[.int .i64 T.kind, .int .i64 T.num, .slice ta T.kids.length tc] 25)).heap.size) := tuck (Nat.lt_of_lt_of_le z7' (below1 w3 _).size)
        clear hox hpush hs2 hn2 hF2 hbd hb3
        have hS1' := And.intro d72 HX3.out
        refine hK.out _ _ (ph_one (by kernel_rfl) hS1') ?_
        clear hK K hS1
        have hS1 := hS1'
        clear hS1'
        try simp only [Act.put, List.setIfInBounds_toArray, List.set_cons_zero, List.set_cons_succ]
        refine AnyTwo.step (i := 15) (o := { dst := some 55, op := _, type := _, pos := _, after := _, guard := _ }) (by kernel_rfl) rfl (fun K hK => ?_)
        go_simp
        have hS1' := And.intro d72' HX4.out
        refine hK.out _ _ (ph_one (by kernel_rfl) hS1') ?_
        clear hK K hS1
        have hS1 := hS1'
        clear hS1'
        try simp only [Act.put, List.setIfInBounds_toArray, List.set_cons_zero, List.set_cons_succ]
        refine AnyTwo.step (i := 16) (o := { dst := some 56, op := _, type := _, pos := _, after := _, guard := _ }) (by kernel_rfl) rfl (fun K hK => ?_)
        refine step_append_lies _ (by rfl) _ _ _ (by rfl) (w.heap.size + 1 + 1 + 1) 25 i0 _ 3 40 Try.underlying23 hi0 hz0 hz1 hz2 rfl (by omega) _ _ _ (by rfl) HOX.out ⟨w3.heap.size, 0, none⟩ 1 1 [.int .i64 T.kind, .int .i64 T.num, .slice ta T.kids.length tc] (by rfl) (by rfl) (World.news_of_block (cs := #[.int .i64 T.kind, .int .i64 T.num, .slice ta T.kids.length tc]) (t := 25) (fr := (0, 0)) (heap_new w3 _)) (by simp [Value.oneCell']) (by omega) hq4 hqb (by simp; omega) (w3.heap.size + 1) (by simp) ?_
        intro gg gcap w4 hown4 hgrow hat hlt4
        have k70 := (hgrow.cell_far ⟨w.heap.size + 1 + 1, 2, none⟩ HZ4.out HB3.out.2.1).trans d72'
        have k7f := (hgrow.frozen_far ⟨w.heap.size + 1 + 1, 2, none⟩ HZ4.out HB3.out.2.1).trans (((below1 w3 _).frozen (p := ⟨w.heap.size + 1 + 1, 2, none⟩) z7').trans (d7f 2))
        have HX5 := tuck (hold2_grown HX4.out hgrow ⟨HB3.out.2.2.1, HB3.out.2.2.2.1⟩)
        refine hK.out _ _ (ph_end (by kernel_rfl) (HX5.out)) ?_
        clear hK K
        try simp only [Act.put, List.setIfInBounds_toArray, List.set_cons_zero, List.set_cons_succ]
        refine AnyTwo.takeAny HT12 (i := 17) (oi := { dst := some 57, op := _, type := _, pos := _, after := _, guard := _ }) (v := ?vc17) rfl (by kernel_rfl) (by kernel_rfl) (by decide +kernel) (by rfl) (fun _ _ _ h => h) (Or.inl ⟨by rfl, ?yc17⟩) (ph_end (by kernel_rfl) HX5.out) ?rc17
        case yc17 => (intro w hSw; (try dsimp only at hSw); go_simp; try (with_reducible rfl))
        try simp only [Act.put, List.setIfInBounds_toArray, List.set_cons_zero, List.set_cons_succ]
        refine AnyTwo.step (i := 18) (o := { dst := none, op := _, type := _, pos := _, after := _, guard := _ }) (by kernel_rfl) rfl (fun K hK => ?_)
        go_simp
        refine hK.out _ _ (ph_end (by kernel_rfl) (hold2_set HX5.out (p := ⟨w.heap.size + 1 + 1, 2, none⟩) (show w.heap.size + 1 + 1 ≠ w.heap.size by omega) (Ne.symm HB3.out.1))) ?_
        clear hK K
        try simp only [Act.put, List.setIfInBounds_toArray, List.set_cons_zero, List.set_cons_succ]
        refine AnyTwo.done (by kernel_rfl) ?_ _
        have HZ3 : Hid (wr.heap.size ≤ w3.heap.size) := HBD.out.size
        clear d70 d71 d72 d7f z7' d72' hS1 HT12 k70 k7f HW1
        go_wp2_with fail
        go_roundw
        case rel =>
          have hz3 := HZ3.out
          have hdr : wr.drew.heap.size = wr.heap.size := rfl
          have hb4 : Below wr.heap.size wr (w3.alloc (.cells #[.int .i64 T.kind, .int .i64 T.num, .slice ta T.kids.length tc] 25)) := bAfter HBD.out (below1 _ _)
          have hlt := HRG.out.lt
          have hflt := HRG.out.flt
          refine ⟨q + 1, .slice (some ⟨gg, 0, none⟩) (q + 1) gcap, F ++ F2, by omega, by go_num, ?_, ?_, ?_, ?_, ?_⟩
          · exact ((bAfter HB.out hb4).grown hgrow (bAfter HB.out hb4).size (fun g hg => by have := (hlt g hg).1; omega)).setCell (by show w.heap.size ≤ w.heap.size + 1 + 1; omega) _
          · exact ((HY3.out.below hb4).grown hgrow HB3.out.2.2.1).far (by show w.heap.size ≠ w.heap.size + 1 + 1; omega) _
          · exact ((HY6.out.below hb4).grown hgrow HB3.out.2.2.2.2).far (by show w.heap.size + 1 ≠ w.heap.size + 1 + 1; omega) _
          · exact ((HY7.out.below hb4).grown hgrow HB3.out.2.1).set2
          · rw [HTK.out]
            refine (HPUSH.out _ _ F2 w4 T HS3.out HN3.out (fun g hg => ?_) hown4 hgrow (hat.imp (fun h => h.symm) (fun h => by rw [h]; simp [Value.ownBlock]))).setCell (by show w.heap.size + 1 + 1 < w.heap.size + 1 + 1 + 1; omega) _
            have h1 := HF3.out g hg
            refine ⟨by omega, by simp; omega, fun hf => by have := (hflt g hf).2.1; omega, fun e => by have := (hlt g e).2; omega⟩
        case measure => simp [intOf]; omega
      · have hge2 : ¬ ((q : Int) < (l.length : Int)) := by omega
        have e : q = l.length := by omega
        subst e
        obtain ⟨z6, c60, c61, c62, c6f⟩ := HY6.out.facts
        obtain ⟨G, hG, hGn, hGb⟩ := HRG.out.done (by rw [hLq]; unfold maxLen; omega)
        rw [List.take_length] at hG
        go_wp2_with fail
        refine bodyPost_ret (v := .agg #[.int .i64 k, .int .i64 ((n)), .slice va l.length vc]) (by simp [results, Try.results67, go_sem, *]) rfl (HPOST.out _ _ G ?_ ?_ hGn fun g hg => ?_)
        · exact bSet3 HB.out (by omega) _ _ _ _ _ _
        · exact hG.set3 (fun h => by have := (hGb _ h).1; omega) _ _ _ _ _ _
        · rw [size_set3]
          have := hGb g hg
          omega
end Go.Proofs.Ytmihfbopahoejaa

namespace Go.Proofs.Ytmihfbopahoejaa
open Go.RowKit

set_option maxRecDepth 100000 in
set_option maxHeartbeats 1600000 in
theorem renS_any (t : Tm) (N : Int → Int) (len : Nat) (w : World) (v nv : Value) (hlen : len ≤ 1048576) (h : TmIn w 0 t v) (hni : Ints w 0 N len nv) : Calls Try.prog 30 #[v, nv] w (SNewPost w (RenameOk t len N) (t.rename N 0)) := by
  obtain ⟨s, rfl, hs⟩ := h
  obtain ⟨a, cap, rfl⟩ := hs.form
  have HNI := tuck hni
  obtain ⟨na, ncap, nb, no, rfl, hnp, hnc⟩ := hni
  have HS := tuck hs
  have HNP := tuck hnp
  have HNC := tuck hnc
  have HV : Hid (∀ w', Below w.heap.size w w' → Calls Try.prog 49 #[.agg #[.int .i64 t.kind, .int .i64 t.num, .slice a t.kids.length cap]] w' (BoolPost w' (tr t.Valid))) := fun w' h => validS_any t w' _ ⟨_, rfl, hs.below h⟩
  have HM : Hid (∀ w', Below w.heap.size w w' → Calls Try.prog 27 #[.agg #[.int .i64 t.kind, .int .i64 t.num, .slice a t.kids.length cap]] w' (IntPost w' (maxFreeOf t))) := fun w' h => maxFreeS_any t w' _ ⟨_, rfl, hs.below h⟩
  have HN : Hid (¬ RenameOk t len N → ∀ w', Below w.heap.size w w' → SNewPost w (RenameOk t len N) (t.rename N 0) (.returned (.tuple #[.agg #[.int .i64 0, .int .i64 0, .slice none 0 0], .bool false])) w') := fun h w' hb => SNewPost.no h hb
  clear hs hnp hnc
  by_cases hv : t.Valid
  rotate_left
  · rw [tr_not hv] at HV
    replace HN := tuck (HN.out (fun h => hv h.1))
    generalize SNewPost w (RenameOk t len N) (t.rename N 0) = post at *
    clear hv
    go_enter Try.func30, Try.ntmps30
    go_wp2_with fail
    refine (HV.out _ (below2 _ _ _)).mono ?_
    rintro e' w1 ⟨rfl, hb⟩
    have HB := tuck (bAfter (below2 _ _ _) hb)
    have hv1 := (var_new1 w (.cells #[.int .i64 t.kind, .int .i64 t.num, .slice a t.kids.length cap] 25) 0 0 (.slice none 0 0)).below hb
    have hv0 := ((VarAt.new w t.kind t.num (.slice a t.kids.length cap)).below (below1 _ (.cells #[.int .i64 0, .int .i64 0, .slice none 0 0] 25))).below hb
    obtain ⟨zv, v0, v1, v2, vf⟩ := hv1.facts
    obtain ⟨zt, t0, t1, t2, -⟩ := hv0.facts
    have HV1 := tuck hv1
    have HV0 := tuck hv0
    clear hb hv0 hv1
    go_wp2_with fail
    refine bodyPost_ret (v := .tuple #[.agg #[.int .i64 0, .int .i64 0, .slice none 0 0], .bool false]) (by simp [results, Try.results30, go_sem, *]) rfl (HN.out _ ?_)
    exact bSet3 HB.out (by omega) _ _ _ _ _ _
  rw [tr_of hv] at HV
  rw [show maxFreeOf t = t.most 0 from if_pos hv] at HM
  have hmb := most_valid hv
  by_cases h21 : len ≤ 21
  rotate_left
  · have g1 : decide ((21 : Int) < (len : Int)) = true := by simp; omega
    replace HN := tuck (HN.out (fun h => h21 h.2.1))
    clear hmb
    generalize SNewPost w (RenameOk t len N) (t.rename N 0) = post at *
    clear hv h21
    go_enter Try.func30, Try.ntmps30
    go_wp2_with fail
    refine (HV.out _ (below2 _ _ _)).mono ?_
    rintro e' w1 ⟨rfl, hb⟩
    have HB := tuck (bAfter (below2 _ _ _) hb)
    have hv1 := (var_new1 w (.cells #[.int .i64 t.kind, .int .i64 t.num, .slice a t.kids.length cap] 25) 0 0 (.slice none 0 0)).below hb
    have hv0 := ((VarAt.new w t.kind t.num (.slice a t.kids.length cap)).below (below1 _ (.cells #[.int .i64 0, .int .i64 0, .slice none 0 0] 25))).below hb
    obtain ⟨zv, v0, v1, v2, vf⟩ := hv1.facts
    obtain ⟨zt, t0, t1, t2, -⟩ := hv0.facts
    have HV1 := tuck hv1
    have HV0 := tuck hv0
    clear hb hv0 hv1
    go_wp2_with fail
    refine bodyPost_ret (v := .tuple #[.agg #[.int .i64 0, .int .i64 0, .slice none 0 0], .bool false]) (by simp [results, Try.results30, go_sem, *]) rfl (HN.out _ ?_)
    exact bSet3 HB.out (by omega) _ _ _ _ _ _
  have g1 : decide ((21 : Int) < (len : Int)) = false := by simp; omega
  by_cases hm : t.most 0 ≤ len
  rotate_left
  · have g2 : decide ((len : Int) < t.most 0) = true := by simp; omega
    replace HN := tuck (HN.out (fun h => hm h.2.2.2.1))
    generalize SNewPost w (RenameOk t len N) (t.rename N 0) = post at *
    generalize t.most 0 = mo at *
    clear hv hm hmb h21
    go_enter Try.func30, Try.ntmps30
    go_wp2_with fail
    refine (HV.out _ (below2 _ _ _)).mono ?_
    rintro e' w1 ⟨rfl, hb⟩
    have HB := tuck (bAfter (below2 _ _ _) hb)
    have hv1 := (var_new1 w (.cells #[.int .i64 t.kind, .int .i64 t.num, .slice a t.kids.length cap] 25) 0 0 (.slice none 0 0)).below hb
    have hv0 := ((VarAt.new w t.kind t.num (.slice a t.kids.length cap)).below (below1 _ (.cells #[.int .i64 0, .int .i64 0, .slice none 0 0] 25))).below hb
    obtain ⟨zv, v0, v1, v2, vf⟩ := hv1.facts
    obtain ⟨zt, t0, t1, t2, -⟩ := hv0.facts
    have HV1 := tuck hv1
    have HV0 := tuck hv0
    clear hb hv0 hv1
    go_wp2_with fail
    refine (HM.out _ HB.out).mono ?_
    rintro e' w2 ⟨rfl, hb⟩
    replace HB := tuck (bAfter HB.out hb)
    replace HV1 := tuck (HV1.out.below hb)
    replace HV0 := tuck (HV0.out.below hb)
    clear hb v0 v1 v2 vf t0 t1 t2 zv zt
    obtain ⟨zv, v0, v1, v2, vf⟩ := HV1.out.facts
    obtain ⟨zt, t0, t1, t2, -⟩ := HV0.out.facts
    go_wp2_with fail
    refine bodyPost_ret (v := .tuple #[.agg #[.int .i64 0, .int .i64 0, .slice none 0 0], .bool false]) (by simp [results, Try.results30, go_sem, *]) rfl (HN.out _ ?_)
    exact bSet3 HB.out (by omega) _ _ _ _ _ _
  have g2 : decide ((len : Int) < t.most 0) = false := by simp; omega
  obtain ⟨b1, b2⟩ := valid_bounds hv
  have hok := t.allOk_iff.1 hv.1
  have hrn := root_num2 hok.1
  have hrl := root_len hok.1
  have HSH : Hid ((∀ i : Nat, i < len → 0 ≤ N i ∧ N i ≤ 20) → ∀ w', Below w.heap.size w w' → Calls Try.prog 67 #[.agg #[.int .i64 t.kind, .int .i64 t.num, .slice a t.kids.length cap], .slice na len ncap, .int .i64 0] w' (MadePost w' (t.rename N 0))) := fun hN w' hw => by
    have := lrename_any hN (by omega) t.kids t.kind t.num 0 w' _ _ (by omega) (by omega) (by omega) (by omega) (by omega) ((allsOk_iff _).1 hok.2) (by rw [Tm.eta]; exact hm) (HS.out.below hw) (HNI.out.below hw)
    rwa [Tm.eta] at this
  have HV2 : Hid (∀ w' v', TmIn w' 0 (t.rename N 0) v' → Calls Try.prog 49 #[v'] w' (BoolPost w' (tr (t.rename N 0).Valid))) := fun w' v' h => validS_any _ w' v' h
  have HQ : Hid ((∀ i : Nat, i < len → 0 ≤ N i ∧ N i ≤ 20) → (RenameOk t len N ↔ (t.rename N 0).Valid)) := fun hN => ⟨fun h => h.2.2.2.2, fun h => ⟨hv, h21, hN, hm, h⟩⟩
  have HQN : Hid (∀ i : Nat, i < len → ¬ (0 ≤ N i ∧ N i ≤ 20) → ¬ RenameOk t len N) := fun i hi h hh => h (hh.2.2.1 i hi)
  have HY : Hid (RenameOk t len N → ∀ w' s, Below w.heap.size w w' → SlIn w' w.heap.size (t.rename N 0).kids s → SNewPost w (RenameOk t len N) (t.rename N 0) (.returned (.tuple #[.agg #[.int .i64 (t.rename N 0).kind, .int .i64 (t.rename N 0).num, s], .bool true])) w') := fun h w' s a1 a2 => SNewPost.yes h a1 a2
  generalize SNewPost w (RenameOk t len N) (t.rename N 0) = post at *
  generalize RenameOk t len N = Q at *
  generalize t.rename N 0 = T at *
  generalize t.most 0 = mo at *
  have hl1 : (len : Int) ≤ 21 := by omega
  clear hv hm hmb hok hrn hrl b1 b2 h21
  go_enter Try.func30, Try.ntmps30
  go_wp2_with fail
  refine (HV.out _ (below2 _ _ _)).mono ?_
  rintro e' w1 ⟨rfl, hb⟩
  have HB := tuck (bAfter (below2 _ _ _) hb)
  have hv1 := (var_new1 w (.cells #[.int .i64 t.kind, .int .i64 t.num, .slice a t.kids.length cap] 25) 0 0 (.slice none 0 0)).below hb
  have hv0 := ((VarAt.new w t.kind t.num (.slice a t.kids.length cap)).below (below1 _ (.cells #[.int .i64 0, .int .i64 0, .slice none 0 0] 25))).below hb
  obtain ⟨zv, v0, v1, v2, vf⟩ := hv1.facts
  obtain ⟨zt, t0, t1, t2, -⟩ := hv0.facts
  have HV1 := tuck hv1
  have HV0 := tuck hv0
  clear hb hv0 hv1
  go_wp2_with fail
  refine (HM.out _ HB.out).mono ?_
  rintro e' w2 ⟨rfl, hb⟩
  replace HB := tuck (bAfter HB.out hb)
  replace HV1 := tuck (HV1.out.below hb)
  replace HV0 := tuck (HV0.out.below hb)
  clear hb v0 v1 v2 vf t0 t1 t2 zv zt
  obtain ⟨zv, v0, v1, v2, vf⟩ := HV1.out.facts
  obtain ⟨zt, t0, t1, t2, -⟩ := HV0.out.facts
  go_wp2_with fail
  go_loopw [6] (fun i wr => ∃ q : Nat, q ≤ len ∧ i = .int .i64 q ∧ w2 = wr ∧ ∀ j : Nat, j < q → 0 ≤ N j ∧ N j ≤ 20) (fun i _ => len - (intOf i).toNat)
  case atStart => exact ⟨0, Nat.zero_le _, rfl, rfl, fun j h => by omega⟩
  case round =>
    obtain ⟨q, hq, rfl, rfl, hN⟩ := hrel
    by_cases hlt : q < len
    · have hlti : ((q : Int) < (len : Int)) := by omega
      have hqi : (0 : Int) ≤ (q : Int) := by omega
      obtain ⟨rfl, _, hbw⟩ := HNP.out (by omega)
      have c0 := (HB.out.cell (p := ⟨nb, no + q, none⟩) hbw).trans (HNC.out q hlt)
      have HNN := tuck hN
      have HX := tuck (index_any (N q))
      clear hN
      by_cases hok : 0 ≤ N q ∧ N q ≤ 20
      · have HOQ := tuck hok
        rw [show decide (0 ≤ N q ∧ N q ≤ 20) = true by simpa using hok] at HX
        clear hok
        go_wp2_with (go_at_call 50; refine (HX.out _).mono ?_; rintro e' w' ⟨rfl, rfl⟩)
        go_roundw
        case rel => exact ⟨q + 1, by omega, by go_num, by first | rfl | trivial, fun j hj => by
          by_cases e : j = q
          · subst e; exact HOQ.out
          · exact HNN.out j (by omega)⟩
        case measure => simp [intOf]; omega
      · have HNX := tuck (HN.out (HQN.out q hlt hok))
        rw [show decide (0 ≤ N q ∧ N q ≤ 20) = false by simpa using hok] at HX
        clear hok
        go_wp2_with (go_at_call 50; refine (HX.out _).mono ?_; rintro e' w' ⟨rfl, rfl⟩)
        refine bodyPost_ret (v := .tuple #[.agg #[.int .i64 0, .int .i64 0, .slice none 0 0], .bool false]) (by simp [results, Try.results30, go_sem, *]) rfl (HNX.out _ ?_)
        exact bSet3 HB.out (by omega) _ _ _ _ _ _
    · have hge2 : ¬ ((q : Int) < (len : Int)) := by omega
      have e : q = len := by omega
      subst e
      replace HSH := tuck (HSH.out hN)
      replace HQ := tuck (HQ.out hN)
      clear hN
      go_wp2_with fail
      refine (HSH.out _ HB.out).mono ?_
      rintro e' w5 ⟨hb, tv, rfl, ts, F, rfl, hso, hnd, hF⟩
      obtain ⟨ta, tc, rfl⟩ := hso.form
      have hsl : SlIn w5 (w.heap.size + 1 + 1) T.kids (.slice ta T.kids.length tc) := hso.sl (fun g hg => by have := (hF g hg).1; have := zv; omega)
      replace HB := tuck (bAfter HB.out hb)
      replace HV1 := tuck (HV1.out.below hb)
      have HSL := tuck hsl
      clear hb hso hnd hF hsl v0 v1 v2 vf t0 t1 t2 zv zt
      go_wp2_with fail
      by_cases hT : T.Valid
      · have HYY := tuck (HY.out (HQ.out.2 hT))
        rw [tr_of hT] at HV2
        clear hT
        refine (HV2.out _ _ ⟨_, rfl, (HSL.out.mono (Nat.zero_le _)).below (below1 _ _)⟩).mono ?_
        rintro e' w6 ⟨rfl, hb6⟩
        have hvo := (VarAt.new w5 T.kind T.num (.slice ta T.kids.length tc)).below hb6
        obtain ⟨zo, o0, o1, o2, -⟩ := hvo.facts
        replace HV1 := tuck ((HV1.out.below (below1 _ _)).below hb6)
        replace HSL := tuck ((HSL.out.below (below1 _ _)).below hb6)
        replace HB := tuck (bAfter HB.out (bAfter (below1 _ _) hb6))
        obtain ⟨zv, v0, v1, v2, vf⟩ := HV1.out.facts
        clear hb6 hvo
        go_wp2_with fail
        refine bodyPost_ret (v := .tuple #[.agg #[.int .i64 T.kind, .int .i64 T.num, .slice ta T.kids.length tc], .bool true]) (by simp [results, Try.results30, go_sem, *]) rfl (HYY.out _ _ ?_ ?_)
        · exact bSet3 HB.out (by omega) _ _ _ _ _ _
        · exact (HSL.out.set3 (by omega)).mono (by omega)
      · have HNX := tuck (HN.out (fun h => hT (HQ.out.1 h)))
        rw [tr_not hT] at HV2
        clear hT
        refine (HV2.out _ _ ⟨_, rfl, (HSL.out.mono (Nat.zero_le _)).below (below1 _ _)⟩).mono ?_
        rintro e' w6 ⟨rfl, hb6⟩
        have hvo := (VarAt.new w5 T.kind T.num (.slice ta T.kids.length tc)).below hb6
        obtain ⟨zo, o0, o1, o2, -⟩ := hvo.facts
        replace HV1 := tuck ((HV1.out.below (below1 _ _)).below hb6)
        replace HSL := tuck ((HSL.out.below (below1 _ _)).below hb6)
        replace HB := tuck (bAfter HB.out (bAfter (below1 _ _) hb6))
        obtain ⟨zv, v0, v1, v2, vf⟩ := HV1.out.facts
        clear hb6 hvo
        go_wp2_with fail
        refine bodyPost_ret (v := .tuple #[.agg #[.int .i64 0, .int .i64 0, .slice none 0 0], .bool false]) (by simp [results, Try.results30, go_sem, *]) rfl (HNX.out _ ?_)
        exact bSet3 HB.out (by omega) _ _ _ _ _ _

end Go.Proofs.Ytmihfbopahoejaa
