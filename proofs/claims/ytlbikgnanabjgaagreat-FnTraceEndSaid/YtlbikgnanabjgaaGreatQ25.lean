/-
  ContrA.
-/
import Derived.Test.YtlbikgnanabjgaaGreatQ18
import Derived.Test.YtlbikgnanabjgaaGreatQ21
import Derived.Test.YtlbikgnanabjgaaGreatQ22
import Derived.Test.YtlbikgnanabjgaaGreatQ24
import Derived.Deep.DeepCutAuto
namespace Go.Proofs.YtlbikgnanabjgaaGreat
open Go.RowKit
def ContrPost (X : Nat → Prop) (w : World) (P : Prop) (T : Tm) (e : Ending) (w' : World) : Prop :=
 Below w.heap.size w w' ∧ ∃ (U : Tm) (s : Value), e = .returned (.tuple #[.agg #[.int .i64 U.kind, .int .i64 U.num, s], .bool (tr P)]) ∧ SlX w' X U.kids s ∧ (P → U = T)
theorem cell_set3 (w : World) (g i j k : Nat) (x y z : Value) {p : Addr} (h : g ≠ p.block) : (((w.setCell ⟨g, i, none⟩ x).setCell ⟨g, j, none⟩ y).setCell ⟨g, k, none⟩ z).cell? p = w.cell? p :=
 (World.cell?_setCell_far _ ⟨g, k, none⟩ p z h).trans ((World.cell?_setCell_far _ ⟨g, j, none⟩ p y h).trans (World.cell?_setCell_far _ ⟨g, i, none⟩ p x h))
set_option maxRecDepth 100000 in
theorem apply_any (t : Tm) (hr : t.rootOk) (hk : ∀ i (hi : i < t.kids.length), t.kids[i].Valid) (h1 : t.redex = 1) (w : World) (X : Nat → Prop) (hX : ∀ i, X i → i < w.heap.size) (s : Value) (hs : SlX w X t.kids s) :
  Calls Tryz.prog 77 #[.agg #[.int .i64 t.kind, .int .i64 t.num, s]] w (ContrPost X w (t.contr.Valid) t.contr) := by
 obtain ⟨e5, hl, hm⟩ : t.kind = 5 ∧ t.kids.length = 2 ∧ (kidT t 0).kind = 4 := by
  rcases redex_shape hr (by omega) with ⟨-, a, b, c⟩ | ⟨e, -⟩ | ⟨e, -⟩ | ⟨e, -⟩ | ⟨e, -⟩ | ⟨e, -⟩
  ·exact ⟨a, b, c⟩
  all_goals omega
 have hl2 : (kidT t 0).kids.length = 2 := by
  have h0 : (kidT t 0).Valid := by rw [kidT_eq (by omega)]; exact hk 0 (by omega)
  have := kid_len h0.root hm (a := 2) (by decide)
  omega
 obtain ⟨a, cap, b, o, rfl, hlm, hp, hc⟩ := hs.open
 obtain ⟨rfl, -, hbw⟩ := hp (by intro e; rw [e] at hl; simp at hl)
 obtain ⟨s0, c00, c01, c02, hs0⟩ := hc 0 (by omega)
 obtain ⟨s1, c10, c11, c12, hs1⟩ := hc 1 (by omega)
 have hF : kidT t 0 = t.kids[0] := kidT_eq (by omega)
 have hA : kidT t 1 = t.kids[1] := kidT_eq (by omega)
 have hvF := hk 0 (by omega)
 have hvA := hk 1 (by omega)
 have hC : t.contr = (kidT (kidT t 0) 1).subst (kidT t 1) 0 0 := by unfold Tm.contr; rw [if_pos h1]
 rw [hC, hF, hA]
 rw [hF] at hl2 hm
 generalize t.kids[0] = F at *
 generalize t.kids[1] = A at *
 obtain ⟨a0, cap0, b0, o0, rfl, -, hp0, hc0⟩ := hs0.open
 obtain ⟨rfl, -, hbw0⟩ := hp0 (by intro e; rw [e] at hl2; simp at hl2)
 obtain ⟨s2, c20, c21, c22, hs2⟩ := hc0 1 (by omega)
 obtain ⟨a1, n1, rfl⟩ := hs1.form
 obtain ⟨a2, n2, rfl⟩ := hs2.form
 have hB : kidT F 1 = F.kids[1] := kidT_eq (by omega)
 have hvB := hvF.get (i := 1) (by omega)
 rw [hB]
 rw [hl2] at c02
 generalize F.kids[1] = B at *
 have HIN : Hid (∀ w', Below w.heap.size w w' → Calls Tryz.prog 85 #[.agg #[.int .i64 B.kind, .int .i64 B.num, .slice a2 B.kids.length n2], .agg #[.int .i64 A.kind, .int .i64 A.num, .slice a1 A.kids.length n1]] w' (ReplPost w' (SubstOk B 0 A) (B.subst A 0 0))) := tuck fun w' h =>
  instI_any B A w' _ _ ⟨_, rfl, hs2.sl.below h⟩ ⟨_, rfl, hs1.sl.below h⟩
 have HP : Hid (∀ w1 w2 e, Below w.heap.size w w1 → ReplPost w1 (SubstOk B 0 A) (B.subst A 0 0) e w2 → ∃ (U : Tm) (sa : Option Addr) (sc : Nat), e = .returned (.tuple #[.agg #[.int .i64 U.kind, .int .i64 U.num, .slice sa U.kids.length sc], .bool (tr (SubstOk B 0 A))]) ∧ Below w1.heap.size w1 w2 ∧
   ∀ i j k x y z, w.heap.size + 1 < w1.heap.size → ContrPost X w ((B.subst A 0 0).Valid) (B.subst A 0 0) (.returned (.tuple #[.agg #[.int .i64 U.kind, .int .i64 U.num, .slice sa U.kids.length sc], .bool (tr (SubstOk B 0 A))])) (((w2.setCell ⟨w.heap.size + 1, i, none⟩ x).setCell ⟨w.heap.size + 1, j, none⟩ y).setCell ⟨w.heap.size + 1, k, none⟩ z)) := tuck fun w1 w2 e hb h => by
  obtain ⟨U, sa, sc, G, hU, rfl, hb2, hown, hnd, hG⟩ := h.open
  refine ⟨U, sa, sc, rfl, hb2, fun i j k x y z hlt => ⟨bSet3 (bAfter hb hb2) (by omega) _ _ _ _ _ _, U, .slice sa U.kids.length sc, ?_, ?_, fun hv => ?_⟩⟩
  ·rw [show SubstOk B 0 A = (B.subst A 0 0).Valid from propext ⟨fun h => h.2.2.2.2, fun h => ⟨hvB, hvA, by omega, by omega, h⟩⟩]
  ·refine SlX.of_sl (B := w1.heap.size) ((hown.set3 (fun h => by have := (hG _ h).1; omega) _ _ _ _ _ _).sl fun g hg => (hG g hg).1) fun i hi => Nat.lt_of_lt_of_le (hX i hi) hb.size
  ·rw [hU]; exact if_pos ⟨hvB, hvA, by omega, by omega, hv⟩
 generalize ContrPost X w ((B.subst A 0 0).Valid) (B.subst A 0 0) = post at *
 rw [hl]
 have c10' : w.cell? ⟨b, o + 3, none⟩ = some (.int .i64 A.kind) := by rw [Nat.one_mul] at c10; exact c10
 have c11' : w.cell? ⟨b, o + 4, none⟩ = some (.int .i64 A.num) := by rw [Nat.one_mul] at c11; exact c11
 have c12' : w.cell? ⟨b, o + 5, none⟩ = some (.slice a1 A.kids.length n1) := by rw [Nat.one_mul] at c12; exact c12
 simp only [Nat.zero_mul, Nat.add_zero] at c00 c01 c02
 have c20' : w.cell? ⟨b0, o0 + 3, none⟩ = some (.int .i64 B.kind) := by rw [Nat.one_mul] at c20; exact c20
 have c21' : w.cell? ⟨b0, o0 + 4, none⟩ = some (.int .i64 B.num) := by rw [Nat.one_mul] at c21; exact c21
 have c22' : w.cell? ⟨b0, o0 + 5, none⟩ = some (.slice a2 B.kids.length n2) := by rw [Nat.one_mul] at c22; exact c22
 clear hc hp hc0 hp0 hs hs0 hs1 hs2 hk hr hB hvF hvA hvB hm hlm c10 c11 c12 c20 c21 c22 hX h1 hC hF hA
 go_enter Tryz.func77, Tryz.ntmps77
 go_wp2_with fail
 have hbx := below2 w (.cells #[.int .i64 5, .int .i64 t.num, .slice (some ⟨b, o, none⟩) 2 cap] 25) (.cells #[.int .i64 0, .int .i64 0, .slice none 0 0] 25)
 have v0 := (VarAt.new w 5 t.num (.slice (some ⟨b, o, none⟩) 2 cap)).below (below1 _ (.cells #[.int .i64 0, .int .i64 0, .slice none 0 0] 25))
 have v1 := var_new1 w (.cells #[.int .i64 5, .int .i64 t.num, .slice (some ⟨b, o, none⟩) 2 cap] 25) 0 0 (.slice none 0 0)
 replace c00 := (hbx.cell (p := ⟨b, o, none⟩) hbw).trans c00
 replace c01 := (hbx.cell (p := ⟨b, o + 1, none⟩) hbw).trans c01
 replace c02 := (hbx.cell (p := ⟨b, o + 2, none⟩) hbw).trans c02
 replace c10' := (hbx.cell (p := ⟨b, o + 3, none⟩) hbw).trans c10'
 replace c11' := (hbx.cell (p := ⟨b, o + 4, none⟩) hbw).trans c11'
 replace c12' := (hbx.cell (p := ⟨b, o + 5, none⟩) hbw).trans c12'
 replace c20' := (hbx.cell (p := ⟨b0, o0 + 3, none⟩) hbw0).trans c20'
 replace c21' := (hbx.cell (p := ⟨b0, o0 + 4, none⟩) hbw0).trans c21'
 replace c22' := (hbx.cell (p := ⟨b0, o0 + 5, none⟩) hbw0).trans c22'
 have hbs : ((w.alloc (.cells #[.int .i64 5, .int .i64 t.num, .slice (some ⟨b, o, none⟩) 2 cap] 25)).alloc (.cells #[.int .i64 0, .int .i64 0, .slice none 0 0] 25)).heap.size = w.heap.size + 1 + 1 := by simp
 have HBX := tuck hbx
 have V1 := tuck v1
 clear hbx v1
 obtain ⟨z0, d0, d1, d2, -⟩ := v0.facts
 have V0 := tuck v0
 clear v0
 generalize ((w.alloc (.cells #[.int .i64 5, .int .i64 t.num, .slice (some ⟨b, o, none⟩) 2 cap] 25)).alloc (.cells #[.int .i64 0, .int .i64 0, .slice none 0 0] 25)) = W0 at *
 have m0 : b < W0.heap.size := by omega
 have m1 : b0 < W0.heap.size := by omega
 have m3 : b < W0.heap.size + 1 := by omega
 have m4 : b0 < W0.heap.size + 1 := by omega
 have m5 : w.heap.size < W0.heap.size + 1 := by omega
 have HBS := tuck hbs
 clear hbs
 have hle : w.heap.size + 1 < W0.heap.size := by have := HBS.out; omega
 go_upto_region 1 with fail
 go_cut [4, 5] (fun p4 p5 wx => ∃ (g4 g5 : Nat), p4 = .pointer (some ⟨g4, 0, none⟩) ∧ p5 = .pointer (some ⟨g5, 0, none⟩) ∧ Below W0.heap.size W0 wx ∧ VarAt g4 F.kind F.num (.slice (some ⟨b0, o0, none⟩) 2 cap0) wx ∧ VarAt g5 A.kind A.num (.slice a1 A.kids.length n1) wx ∧ W0.heap.size ≤ g4 ∧ W0.heap.size ≤ g5)
 case first =>
  go_region
  all_goals (go_wp2_with fail; go_meet)
  all_goals first
   | exact ⟨W0.heap.size, W0.heap.size + 1, rfl, rfl, (below2 _ _ _).drew, ((VarAt.new W0 F.kind F.num (.slice (some ⟨b0, o0, none⟩) 2 cap0)).below (below1 _ (.cells #[.int .i64 A.kind, .int .i64 A.num, .slice a1 A.kids.length n1] 25))).below (Below.refl _ _).drew, (var_new1 W0 (.cells #[.int .i64 F.kind, .int .i64 F.num, .slice (some ⟨b0, o0, none⟩) 2 cap0] 25) A.kind A.num (.slice a1 A.kids.length n1)).below (Below.refl _ _).drew, Nat.le_refl _, Nat.le_succ _⟩
   | exact ⟨W0.heap.size + 1, W0.heap.size, rfl, rfl, (below2 _ _ _).drew, (var_new1 W0 (.cells #[.int .i64 A.kind, .int .i64 A.num, .slice a1 A.kids.length n1] 25) F.kind F.num (.slice (some ⟨b0, o0, none⟩) 2 cap0)).below (Below.refl _ _).drew, ((VarAt.new W0 A.kind A.num (.slice a1 A.kids.length n1)).below (below1 _ (.cells #[.int .i64 F.kind, .int .i64 F.num, .slice (some ⟨b0, o0, none⟩) 2 cap0] 25))).below (Below.refl _ _).drew, Nat.le_succ _, Nat.le_refl _⟩
 case rest =>
  obtain ⟨g4, g5, rfl, rfl, hb, hv4, hv5, hg4, hg5⟩ := hcut
  rename World => W1
  have h20 := (hb.cell (p := ⟨b0, o0 + 3, none⟩) m1).trans c20'
  have h21 := (hb.cell (p := ⟨b0, o0 + 4, none⟩) m1).trans c21'
  have h22 := (hb.cell (p := ⟨b0, o0 + 5, none⟩) m1).trans c22'
  have zb : b0 < W1.heap.size := Nat.lt_of_lt_of_le m1 hb.size
  obtain ⟨z4, -, -, v42, -⟩ := hv4.facts
  obtain ⟨z5, v50, v51, v52, -⟩ := hv5.facts
  have HS0 : Hid ((fun w' : World => ((g4 < w'.heap.size ∧ w'.cell? ⟨g4, 2, none⟩ = some (.slice (some ⟨b0, o0, none⟩) 2 cap0)) ∧ (b0 < w'.heap.size ∧ w'.cell? ⟨b0, o0 + 3, none⟩ = some (.int .i64 B.kind) ∧ w'.cell? ⟨b0, o0 + 4, none⟩ = some (.int .i64 B.num) ∧ w'.cell? ⟨b0, o0 + 5, none⟩ = some (.slice a2 B.kids.length n2)) ∧ (g5 < w'.heap.size ∧ w'.cell? ⟨g5, 0, none⟩ = some (.int .i64 A.kind) ∧ w'.cell? ⟨g5, 1, none⟩ = some (.int .i64 A.num) ∧ w'.cell? ⟨g5, 2, none⟩ = some (.slice a1 A.kids.length n1)))) W1.drew) := tuck ⟨⟨z4, v42⟩, ⟨zb, h20, h21, h22⟩, z5, v50, v51, v52⟩
  have hkeep : ∀ w2 : World, Below W1.drew.heap.size W1.drew w2 → ((fun w' : World => ((g4 < w'.heap.size ∧ w'.cell? ⟨g4, 2, none⟩ = some (.slice (some ⟨b0, o0, none⟩) 2 cap0)) ∧ (b0 < w'.heap.size ∧ w'.cell? ⟨b0, o0 + 3, none⟩ = some (.int .i64 B.kind) ∧ w'.cell? ⟨b0, o0 + 4, none⟩ = some (.int .i64 B.num) ∧ w'.cell? ⟨b0, o0 + 5, none⟩ = some (.slice a2 B.kids.length n2)) ∧ (g5 < w'.heap.size ∧ w'.cell? ⟨g5, 0, none⟩ = some (.int .i64 A.kind) ∧ w'.cell? ⟨g5, 1, none⟩ = some (.int .i64 A.num) ∧ w'.cell? ⟨g5, 2, none⟩ = some (.slice a1 A.kids.length n1)))) w2) := fun w2 h => by
   have hz : W1.heap.size ≤ w2.heap.size := h.size
   exact ⟨⟨by omega, (h.cell (p := ⟨g4, 2, none⟩) z4).trans v42⟩, ⟨by omega, (h.cell (p := ⟨b0, o0 + 3, none⟩) zb).trans h20, (h.cell (p := ⟨b0, o0 + 4, none⟩) zb).trans h21, (h.cell (p := ⟨b0, o0 + 5, none⟩) zb).trans h22⟩, by omega, (h.cell (p := ⟨g5, 0, none⟩) z5).trans v50, (h.cell (p := ⟨g5, 1, none⟩) z5).trans v51, (h.cell (p := ⟨g5, 2, none⟩) z5).trans v52⟩
  have hkeep3 : ∀ (w2 : World) (i j k : Nat) (x y z : Value), Below W1.drew.heap.size W1.drew w2 → ((fun w' : World => ((g4 < w'.heap.size ∧ w'.cell? ⟨g4, 2, none⟩ = some (.slice (some ⟨b0, o0, none⟩) 2 cap0)) ∧ (b0 < w'.heap.size ∧ w'.cell? ⟨b0, o0 + 3, none⟩ = some (.int .i64 B.kind) ∧ w'.cell? ⟨b0, o0 + 4, none⟩ = some (.int .i64 B.num) ∧ w'.cell? ⟨b0, o0 + 5, none⟩ = some (.slice a2 B.kids.length n2)) ∧ (g5 < w'.heap.size ∧ w'.cell? ⟨g5, 0, none⟩ = some (.int .i64 A.kind) ∧ w'.cell? ⟨g5, 1, none⟩ = some (.int .i64 A.num) ∧ w'.cell? ⟨g5, 2, none⟩ = some (.slice a1 A.kids.length n1)))) (((w2.setCell ⟨w.heap.size + 1, i, none⟩ x).setCell ⟨w.heap.size + 1, j, none⟩ y).setCell ⟨w.heap.size + 1, k, none⟩ z)) := fun w2 i j k x y z h => by
   obtain ⟨⟨e1, e2⟩, ⟨e3, e4, e5, e6⟩, e7, e8, e9, e10⟩ := hkeep w2 h
   have hW := HBS.out
   have q4 : w.heap.size + 1 ≠ g4 := by omega
   have q5 : w.heap.size + 1 ≠ g5 := by omega
   have qb : w.heap.size + 1 ≠ b0 := by omega
   have qz := size_set3 w2 (w.heap.size + 1) i j k x y z
   exact ⟨⟨by rw [qz]; exact e1, (cell_set3 w2 _ i j k x y z q4).trans e2⟩, ⟨by rw [qz]; exact e3, (cell_set3 w2 _ i j k x y z qb).trans e4, (cell_set3 w2 _ i j k x y z qb).trans e5, (cell_set3 w2 _ i j k x y z qb).trans e6⟩, by rw [qz]; exact e7, (cell_set3 w2 _ i j k x y z q5).trans e8, (cell_set3 w2 _ i j k x y z q5).trans e9, (cell_set3 w2 _ i j k x y z q5).trans e10⟩
  have HKEEP := tuck hkeep
  have HKEEP3 := tuck hkeep3
  have HLT : Hid (w.heap.size + 1 < W1.drew.heap.size) := tuck (Nat.lt_of_lt_of_le hle hb.size)
  have HBW := tuck (bAfter HBX.out (bAfter hb (Below.refl _ _).drew))
  have HV1 := tuck ((V1.out.below hb).below (Below.refl _ _).drew)
  clear h20 h21 h22 zb z4 v42 z5 v50 v51 v52 hb hv4 hv5 hkeep hkeep3 c00 c01 c02 c10' c11' c12' c20' c21' c22' d0 d1 d2 m0 m1 m3 m4 m5 z0 hle
  go_wp2_with fail
  go_region_held3 (fun w' => ((g4 < w'.heap.size ∧ w'.cell? ⟨g4, 2, none⟩ = some (.slice (some ⟨b0, o0, none⟩) 2 cap0)) ∧ (b0 < w'.heap.size ∧ w'.cell? ⟨b0, o0 + 3, none⟩ = some (.int .i64 B.kind) ∧ w'.cell? ⟨b0, o0 + 4, none⟩ = some (.int .i64 B.num) ∧ w'.cell? ⟨b0, o0 + 5, none⟩ = some (.slice a2 B.kids.length n2)) ∧ (g5 < w'.heap.size ∧ w'.cell? ⟨g5, 0, none⟩ = some (.int .i64 A.kind) ∧ w'.cell? ⟨g5, 1, none⟩ = some (.int .i64 A.num) ∧ w'.cell? ⟨g5, 2, none⟩ = some (.slice a1 A.kids.length n1)))) (first | exact HS0.out | exact HKEEP.out _ hb2 | exact HKEEP3.out _ _ _ _ _ _ _ hb2) ((go_at_call 85; refine (HIN.out _ HBW.out).mono ?_; rintro e w2 hpost; obtain ⟨U, sa, sc, rfl, hb2, hend⟩ := HP.out _ _ _ HBW.out hpost; have HEND := tuck hend; clear hend hpost; obtain ⟨z1, r0, r1, r2, rf⟩ := (HV1.out.below hb2).facts))
  all_goals (try go_wp2_with fail)
  all_goals exact bodyPost_ret (v := .tuple #[.agg #[.int .i64 U.kind, .int .i64 U.num, .slice sa U.kids.length sc], .bool (tr (SubstOk B 0 A))]) (by simp [results, Tryz.results77, go_sem, *]) rfl (HEND.out _ _ _ _ _ _ HLT.out)
end Go.Proofs.YtlbikgnanabjgaaGreat
