/-
  ContrB.
-/
import Derived.Test.YteeafpnjpcgfaaaGreatB20
import Derived.Test.YteeafpnjpcgfaaaGreatB36
namespace Go.Proofs.YteeafpnjpcgfaaaGreat
open Go.RowKit
theorem heap_keep {w : World} {R : Nat} {x : Obj} (h : w.heap[R]? = some x) (o : Obj) : (w.alloc o).heap[R]? = some x :=
 (Below.heap_alloc w o R (by
  rcases Nat.lt_or_ge R w.heap.size with hlt | hge
  ·exact hlt
  ·rw [Array.getElem?_eq_none hge] at h; cases h)).trans h
theorem SlX.of_block {w : World} {X : Nat → Prop} {R cap : Nat} {T : TypeId} {cs : Array Value} {rs : List (Tm × Value)} (hb : w.heap[R]? = some (.cells cs T (0, 0))) (hc : cs.toList = cellsL rs) (hX : ¬ X R) (hl : rs.length ≤ maxLen) (hx : ∀ x ∈ rs, SlX w X x.1.kids x.2) :
  SlX w X (rs.map (·.1)) (.slice (some ⟨R, 0, none⟩) rs.length cap) := by
 obtain ⟨b1, b2, -⟩ := block_of_cells hb
 have hr : RowAt (mask w X) 0 (rs.map (·.1)) R 0 := by
  refine RowAt.of_list (fun j u hu => mask_cell.2 ⟨hX, ?_⟩) hx
  rw [Nat.zero_add, b2, ← Array.getElem?_toList, hc]
  exact hu
 refine ⟨_, cap, R, 0, ?_, ?_, fun _ => ⟨rfl, Nat.zero_le _⟩, hr⟩
 ·rw [List.length_map]
 ·rw [List.length_map]; exact hl
theorem heap_set3 (w : World) (g i j k : Nat) (x y z : Value) {R : Nat} {ob : Option Obj} (h : R ≠ g) (hr : w.heap[R]? = ob) : (((w.setCell ⟨g, i, none⟩ x).setCell ⟨g, j, none⟩ y).setCell ⟨g, k, none⟩ z).heap[R]? = ob :=
 (Below.heap_setCell _ ⟨g, k, none⟩ z R h).trans ((Below.heap_setCell _ ⟨g, j, none⟩ y R h).trans ((Below.heap_setCell _ ⟨g, i, none⟩ x R h).trans hr))
set_option maxRecDepth 100000 in
set_option maxHeartbeats 8000000 in
theorem unroll_any (t : Tm) (hr : t.rootOk) (hk : ∀ i (hi : i < t.kids.length), t.kids[i].Valid) (h3 : t.redex = 3) (w : World) (X : Nat → Prop) (hX : ∀ i, X i → i < w.heap.size) (s : Value) (hs : SlX w X t.kids s) :
  Calls Tryz.prog 124 #[.agg #[.int .i64 t.kind, .int .i64 t.num, s]] w (ContrPost X w (t.contr.Valid) t.contr) := by
 obtain ⟨e9, hl, hm⟩ : t.kind = 9 ∧ t.kids.length = 4 ∧ (kidT t 3).kind = 8 := by
  rcases redex_shape hr (by omega) with ⟨e, -⟩ | ⟨e, -⟩ | ⟨-, a, b, c⟩ | ⟨e, -⟩ | ⟨e, -⟩ | ⟨e, -⟩
  ·omega
  ·omega
  ·exact ⟨a, b, c⟩
  all_goals omega
 have hl2 : (kidT t 3).kids.length = 1 := by
  have h0 : (kidT t 3).Valid := by rw [kidT_eq (by omega)]; exact hk 3 (by omega)
  have := kid_len h0.root hm (a := 1) (by decide)
  omega
 obtain ⟨a, cap, b, o, rfl, hlm, hp, hc⟩ := hs.open
 obtain ⟨rfl, -, hbw⟩ := hp (by intro e; rw [e] at hl; simp at hl)
 obtain ⟨s0, c00, c01, c02, hs0⟩ := hc 0 (by omega)
 obtain ⟨s1, c10, c11, c12, hs1⟩ := hc 1 (by omega)
 obtain ⟨s2, c20, c21, c22, hs2⟩ := hc 2 (by omega)
 obtain ⟨s3, c30, c31, c32, hs3⟩ := hc 3 (by omega)
 have h0 : kidT t 0 = t.kids[0] := kidT_eq (by omega)
 have h1 : kidT t 1 = t.kids[1] := kidT_eq (by omega)
 have h2 : kidT t 2 = t.kids[2] := kidT_eq (by omega)
 have h3' : kidT t 3 = t.kids[3] := kidT_eq (by omega)
 have hC : t.contr = .mk 5 0 [.mk 5 0 [kidT t 2, kidT (kidT t 3) 0], .mk 9 0 [kidT t 0, kidT t 1, kidT t 2, kidT (kidT t 3) 0]] := by unfold Tm.contr; rw [if_neg (by omega), if_neg (by omega), if_pos h3]
 rw [hC, h0, h1, h2, h3']
 rw [h3'] at hl2 hm
 generalize t.kids[0] = P at *
 generalize t.kids[1] = Z at *
 generalize t.kids[2] = S at *
 generalize t.kids[3] = M at *
 obtain ⟨a3, cap3, b3, o3, rfl, -, hp3, hc3⟩ := hs3.open
 obtain ⟨rfl, -, hbw3⟩ := hp3 (by intro e; rw [e] at hl2; simp at hl2)
 obtain ⟨s4, c40, c41, c42, hs4⟩ := hc3 0 (by omega)
 obtain ⟨a0, n0, rfl⟩ := hs0.form
 obtain ⟨a1, n1, rfl⟩ := hs1.form
 obtain ⟨a2, n2, rfl⟩ := hs2.form
 obtain ⟨a4, n4, rfl⟩ := hs4.form
 have hB : kidT M 0 = M.kids[0] := kidT_eq (by omega)
 rw [hB]
 rw [hl2] at c32
 generalize M.kids[0] = B at *
 have hbx := below2 w (.cells #[.int .i64 9, .int .i64 t.num, .slice (some ⟨b, o, none⟩) 4 cap] 29) (.cells #[.int .i64 0, .int .i64 0, .slice none 0 0] 29)
 have v0 := (VarAt.new w 9 t.num (.slice (some ⟨b, o, none⟩) 4 cap)).below (below1 _ (.cells #[.int .i64 0, .int .i64 0, .slice none 0 0] 29))
 have v1 := var_new1 w (.cells #[.int .i64 9, .int .i64 t.num, .slice (some ⟨b, o, none⟩) 4 cap] 29) 0 0 (.slice none 0 0)
 have hbs : ((w.alloc (.cells #[.int .i64 9, .int .i64 t.num, .slice (some ⟨b, o, none⟩) 4 cap] 29)).alloc (.cells #[.int .i64 0, .int .i64 0, .slice none 0 0] 29)).heap.size = w.heap.size + 1 + 1 := by simp
 have d00 := (hbx.cell (p := ⟨b, o, none⟩) hbw).trans (by simpa using c00)
 have d01 := (hbx.cell (p := ⟨b, o + 1, none⟩) hbw).trans (by simpa using c01)
 have d02 := (hbx.cell (p := ⟨b, o + 2, none⟩) hbw).trans (by simpa using c02)
 have d10 := (hbx.cell (p := ⟨b, o + 3, none⟩) hbw).trans (by simpa using c10)
 have d11 := (hbx.cell (p := ⟨b, o + 4, none⟩) hbw).trans (by simpa using c11)
 have d12 := (hbx.cell (p := ⟨b, o + 5, none⟩) hbw).trans (by simpa using c12)
 have d20 := (hbx.cell (p := ⟨b, o + 6, none⟩) hbw).trans (by simpa using c20)
 have d21 := (hbx.cell (p := ⟨b, o + 7, none⟩) hbw).trans (by simpa using c21)
 have d22 := (hbx.cell (p := ⟨b, o + 8, none⟩) hbw).trans (by simpa using c22)
 have d30 := (hbx.cell (p := ⟨b, o + 9, none⟩) hbw).trans (by simpa using c30)
 have d31 := (hbx.cell (p := ⟨b, o + 10, none⟩) hbw).trans (by simpa using c31)
 have d32 := (hbx.cell (p := ⟨b, o + 11, none⟩) hbw).trans (by simpa using c32)
 have d40 := (hbx.cell (p := ⟨b3, o3, none⟩) hbw3).trans (by simpa using c40)
 have d41 := (hbx.cell (p := ⟨b3, o3 + 1, none⟩) hbw3).trans (by simpa using c41)
 have d42 := (hbx.cell (p := ⟨b3, o3 + 2, none⟩) hbw3).trans (by simpa using c42)
 obtain ⟨z0, -, -, y2, -⟩ := v0.facts
 have HBX := tuck hbx
 have V1 := tuck v1
 clear hbx v0 v1 hc hp hc3 hp3 c00 c01 c02 c10 c11 c12 c20 c21 c22 c30 c31 c32 c40 c41 c42 hr hk h3 hm hlm hs hs3 hC h0 h1 h2 h3' hB
 rw [e9, hl]
 generalize hpost : ContrPost X w _ _ = post
 go_enter Tryz.func124, Tryz.ntmps124
 go_wp2_with fail
 generalize ((w.alloc (.cells #[.int .i64 9, .int .i64 t.num, .slice (some ⟨b, o, none⟩) 4 cap] 29)).alloc (.cells #[.int .i64 0, .int .i64 0, .slice none 0 0] 29)) = W0 at *
 have HBS := tuck hbs
 have m0 : b < W0.heap.size := by omega
 have k0 : b3 < W0.heap.size := by omega
 clear hbs
 have HCELLS : Hid (∀ w', Below W0.heap.size W0 w' → w'.cell? ⟨b, o, none⟩ = some (.int .i64 P.kind) ∧ w'.cell? ⟨b, o + 1, none⟩ = some (.int .i64 P.num) ∧ w'.cell? ⟨b, o + 2, none⟩ = some (.slice a0 P.kids.length n0) ∧ w'.cell? ⟨b, o + 3, none⟩ = some (.int .i64 Z.kind) ∧ w'.cell? ⟨b, o + 4, none⟩ = some (.int .i64 Z.num) ∧ w'.cell? ⟨b, o + 5, none⟩ = some (.slice a1 Z.kids.length n1) ∧
   w'.cell? ⟨b, o + 6, none⟩ = some (.int .i64 S.kind) ∧ w'.cell? ⟨b, o + 7, none⟩ = some (.int .i64 S.num) ∧ w'.cell? ⟨b, o + 8, none⟩ = some (.slice a2 S.kids.length n2) ∧ w'.cell? ⟨b, o + 9, none⟩ = some (.int .i64 M.kind) ∧ w'.cell? ⟨b, o + 10, none⟩ = some (.int .i64 M.num) ∧ w'.cell? ⟨b, o + 11, none⟩ = some (.slice (some ⟨b3, o3, none⟩) 1 cap3) ∧
   w'.cell? ⟨b3, o3, none⟩ = some (.int .i64 B.kind) ∧ w'.cell? ⟨b3, o3 + 1, none⟩ = some (.int .i64 B.num) ∧ w'.cell? ⟨b3, o3 + 2, none⟩ = some (.slice a4 B.kids.length n4) ∧ w'.cell? ⟨w.heap.size, 2, none⟩ = some (.slice (some ⟨b, o, none⟩) 4 cap)) := tuck fun w' h =>
  ⟨(h.cell (p := ⟨b, o, none⟩) m0).trans d00, (h.cell (p := ⟨b, o + 1, none⟩) m0).trans d01, (h.cell (p := ⟨b, o + 2, none⟩) m0).trans d02, (h.cell (p := ⟨b, o + 3, none⟩) m0).trans d10, (h.cell (p := ⟨b, o + 4, none⟩) m0).trans d11, (h.cell (p := ⟨b, o + 5, none⟩) m0).trans d12,
   (h.cell (p := ⟨b, o + 6, none⟩) m0).trans d20, (h.cell (p := ⟨b, o + 7, none⟩) m0).trans d21, (h.cell (p := ⟨b, o + 8, none⟩) m0).trans d22, (h.cell (p := ⟨b, o + 9, none⟩) m0).trans d30, (h.cell (p := ⟨b, o + 10, none⟩) m0).trans d31, (h.cell (p := ⟨b, o + 11, none⟩) m0).trans d32,
   (h.cell (p := ⟨b3, o3, none⟩) k0).trans d40, (h.cell (p := ⟨b3, o3 + 1, none⟩) k0).trans d41, (h.cell (p := ⟨b3, o3 + 2, none⟩) k0).trans d42, (h.cell (p := ⟨w.heap.size, 2, none⟩) z0).trans y2⟩
 go_upto_region 1 with fail
 go_cut [4, 5, 6, 7] (fun p4 p5 p6 p7 wx => ∃ (g4 g5 g6 g7 : Nat), p4 = .pointer (some ⟨g4, 0, none⟩) ∧ p5 = .pointer (some ⟨g5, 0, none⟩) ∧ p6 = .pointer (some ⟨g6, 0, none⟩) ∧ p7 = .pointer (some ⟨g7, 0, none⟩) ∧ Below W0.heap.size W0 wx ∧ VarAt g4 P.kind P.num (.slice a0 P.kids.length n0) wx ∧ VarAt g5 Z.kind Z.num (.slice a1 Z.kids.length n1) wx ∧ VarAt g6 S.kind S.num (.slice a2 S.kids.length n2) wx ∧ VarAt g7 B.kind B.num (.slice a4 B.kids.length n4) wx)
 case first =>
  have HT12 : ∀ w' : World, (fun w' : World => Below W0.heap.size W0 w') w' → (fun w' : World => Below W0.heap.size W0 w') w' := fun w' h => h
  refine AnyTwo.begin (fun w' : World => Below W0.heap.size W0 w') (fun w' : World => Below W0.heap.size W0 w') 26 (by kernel_rfl) ?_
  have hS1 : (fun w' : World => Below W0.heap.size W0 w') W0.drew := (Below.refl _ _).drew
  refine AnyTwo.takeAny HT12 (i := 0) (oi := ⟨some 11, _, _, _, _, _⟩) (v := ?v0) rfl (by kernel_rfl) (by kernel_rfl) (by decide +kernel) (by rfl) (fun _ _ _ h => h) (Or.inl ⟨by rfl, ?y0⟩) (ph_one (by kernel_rfl) hS1) ?r0
  case y0 => (intro w hSw; (try dsimp only at hSw); obtain ⟨x0, x1, x2, x3, x4, x5, x6, x7, x8, x9, x10, x11, x12, x13, x14, x15⟩ := HCELLS.out _ hSw; go_simp; try (with_reducible rfl))
  try simp only [Act.put, List.setIfInBounds_toArray, List.set_cons_zero, List.set_cons_succ]
  refine AnyTwo.takeAny HT12 (i := 1) (oi := ⟨some 12, _, _, _, _, _⟩) (v := ?v1) rfl (by kernel_rfl) (by kernel_rfl) (by decide +kernel) (by rfl) (fun _ _ _ h => h) (Or.inl ⟨by rfl, ?y1⟩) (ph_one (by kernel_rfl) hS1) ?r1
  case y1 => (intro w hSw; (try dsimp only at hSw); obtain ⟨x0, x1, x2, x3, x4, x5, x6, x7, x8, x9, x10, x11, x12, x13, x14, x15⟩ := HCELLS.out _ hSw; go_simp; try (with_reducible rfl))
  try simp only [Act.put, List.setIfInBounds_toArray, List.set_cons_zero, List.set_cons_succ]
  refine AnyTwo.takeAny HT12 (i := 2) (oi := ⟨some 13, _, _, _, _, _⟩) (v := ?v2) rfl (by kernel_rfl) (by kernel_rfl) (by decide +kernel) (by rfl) (fun _ _ _ h => h) (Or.inl ⟨by rfl, ?y2⟩) (ph_one (by kernel_rfl) hS1) ?r2
  case y2 => (intro w hSw; (try dsimp only at hSw); obtain ⟨x0, x1, x2, x3, x4, x5, x6, x7, x8, x9, x10, x11, x12, x13, x14, x15⟩ := HCELLS.out _ hSw; go_simp; try (with_reducible rfl))
  try simp only [Act.put, List.setIfInBounds_toArray, List.set_cons_zero, List.set_cons_succ]
  refine AnyTwo.takeAny HT12 (i := 3) (oi := ⟨some 14, _, _, _, _, _⟩) (v := ?v3) rfl (by kernel_rfl) (by kernel_rfl) (by decide +kernel) (by rfl) (fun _ _ _ h => h) (Or.inl ⟨by rfl, ?y3⟩) (ph_one (by kernel_rfl) hS1) ?r3
  case y3 => (intro w hSw; (try dsimp only at hSw); obtain ⟨x0, x1, x2, x3, x4, x5, x6, x7, x8, x9, x10, x11, x12, x13, x14, x15⟩ := HCELLS.out _ hSw; go_simp; try (with_reducible rfl))
  try simp only [Act.put, List.setIfInBounds_toArray, List.set_cons_zero, List.set_cons_succ]
  refine AnyTwo.takeAny HT12 (i := 4) (oi := ⟨some 15, _, _, _, _, _⟩) (v := ?v4) rfl (by kernel_rfl) (by kernel_rfl) (by decide +kernel) (by rfl) (fun _ _ _ h => h) (Or.inl ⟨by rfl, ?y4⟩) (ph_one (by kernel_rfl) hS1) ?r4
  case y4 => (intro w hSw; (try dsimp only at hSw); obtain ⟨x0, x1, x2, x3, x4, x5, x6, x7, x8, x9, x10, x11, x12, x13, x14, x15⟩ := HCELLS.out _ hSw; go_simp; try (with_reducible rfl))
  try simp only [Act.put, List.setIfInBounds_toArray, List.set_cons_zero, List.set_cons_succ]
  refine AnyTwo.takeAny HT12 (i := 5) (oi := ⟨some 16, _, _, _, _, _⟩) (v := ?v5) rfl (by kernel_rfl) (by kernel_rfl) (by decide +kernel) (by rfl) (fun _ _ _ h => h) (Or.inl ⟨by rfl, ?y5⟩) (ph_one (by kernel_rfl) hS1) ?r5
  case y5 => (intro w hSw; (try dsimp only at hSw); obtain ⟨x0, x1, x2, x3, x4, x5, x6, x7, x8, x9, x10, x11, x12, x13, x14, x15⟩ := HCELLS.out _ hSw; go_simp; try (with_reducible rfl))
  try simp only [Act.put, List.setIfInBounds_toArray, List.set_cons_zero, List.set_cons_succ]
  refine AnyTwo.takeAny HT12 (i := 6) (oi := ⟨some 17, _, _, _, _, _⟩) (v := ?v6) rfl (by kernel_rfl) (by kernel_rfl) (by decide +kernel) (by rfl) (fun _ _ _ h => h) (Or.inl ⟨by rfl, ?y6⟩) (ph_one (by kernel_rfl) hS1) ?r6
  case y6 => (intro w hSw; (try dsimp only at hSw); obtain ⟨x0, x1, x2, x3, x4, x5, x6, x7, x8, x9, x10, x11, x12, x13, x14, x15⟩ := HCELLS.out _ hSw; go_simp; try (with_reducible rfl))
  try simp only [Act.put, List.setIfInBounds_toArray, List.set_cons_zero, List.set_cons_succ]
  refine AnyTwo.takeAny HT12 (i := 7) (oi := ⟨some 18, _, _, _, _, _⟩) (v := ?v7) rfl (by kernel_rfl) (by kernel_rfl) (by decide +kernel) (by rfl) (fun _ _ _ h => h) (Or.inl ⟨by rfl, ?y7⟩) (ph_one (by kernel_rfl) hS1) ?r7
  case y7 => (intro w hSw; (try dsimp only at hSw); obtain ⟨x0, x1, x2, x3, x4, x5, x6, x7, x8, x9, x10, x11, x12, x13, x14, x15⟩ := HCELLS.out _ hSw; go_simp; try (with_reducible rfl))
  try simp only [Act.put, List.setIfInBounds_toArray, List.set_cons_zero, List.set_cons_succ]
  refine AnyTwo.takeAny HT12 (i := 8) (oi := ⟨some 19, _, _, _, _, _⟩) (v := ?v8) rfl (by kernel_rfl) (by kernel_rfl) (by decide +kernel) (by rfl) (fun _ _ _ h => h) (Or.inl ⟨by rfl, ?y8⟩) (ph_one (by kernel_rfl) hS1) ?r8
  case y8 => (intro w hSw; (try dsimp only at hSw); obtain ⟨x0, x1, x2, x3, x4, x5, x6, x7, x8, x9, x10, x11, x12, x13, x14, x15⟩ := HCELLS.out _ hSw; go_simp; try (with_reducible rfl))
  try simp only [Act.put, List.setIfInBounds_toArray, List.set_cons_zero, List.set_cons_succ]
  refine AnyTwo.takeAny HT12 (i := 9) (oi := ⟨some 20, _, _, _, _, _⟩) (v := ?v9) rfl (by kernel_rfl) (by kernel_rfl) (by decide +kernel) (by rfl) (fun _ _ _ h => h) (Or.inl ⟨by rfl, ?y9⟩) (ph_one (by kernel_rfl) hS1) ?r9
  case y9 => (intro w hSw; (try dsimp only at hSw); obtain ⟨x0, x1, x2, x3, x4, x5, x6, x7, x8, x9, x10, x11, x12, x13, x14, x15⟩ := HCELLS.out _ hSw; go_simp; try (with_reducible rfl))
  try simp only [Act.put, List.setIfInBounds_toArray, List.set_cons_zero, List.set_cons_succ]
  refine AnyTwo.takeAny HT12 (i := 10) (oi := ⟨some 21, _, _, _, _, _⟩) (v := ?v10) rfl (by kernel_rfl) (by kernel_rfl) (by decide +kernel) (by rfl) (fun _ _ _ h => h) (Or.inl ⟨by rfl, ?y10⟩) (ph_one (by kernel_rfl) hS1) ?r10
  case y10 => (intro w hSw; (try dsimp only at hSw); obtain ⟨x0, x1, x2, x3, x4, x5, x6, x7, x8, x9, x10, x11, x12, x13, x14, x15⟩ := HCELLS.out _ hSw; go_simp; try (with_reducible rfl))
  try simp only [Act.put, List.setIfInBounds_toArray, List.set_cons_zero, List.set_cons_succ]
  refine AnyTwo.takeAny HT12 (i := 11) (oi := ⟨some 22, _, _, _, _, _⟩) (v := ?v11) rfl (by kernel_rfl) (by kernel_rfl) (by decide +kernel) (by rfl) (fun _ _ _ h => h) (Or.inl ⟨by rfl, ?y11⟩) (ph_one (by kernel_rfl) hS1) ?r11
  case y11 => (intro w hSw; (try dsimp only at hSw); obtain ⟨x0, x1, x2, x3, x4, x5, x6, x7, x8, x9, x10, x11, x12, x13, x14, x15⟩ := HCELLS.out _ hSw; go_simp; try (with_reducible rfl))
  try simp only [Act.put, List.setIfInBounds_toArray, List.set_cons_zero, List.set_cons_succ]
  refine AnyTwo.takeAny HT12 (i := 12) (oi := ⟨some 23, _, _, _, _, _⟩) (v := ?v12) rfl (by kernel_rfl) (by kernel_rfl) (by decide +kernel) (by rfl) (fun _ _ _ h => h) (Or.inl ⟨by rfl, ?y12⟩) (ph_one (by kernel_rfl) hS1) ?r12
  case y12 => (intro w hSw; (try dsimp only at hSw); obtain ⟨x0, x1, x2, x3, x4, x5, x6, x7, x8, x9, x10, x11, x12, x13, x14, x15⟩ := HCELLS.out _ hSw; go_simp; try (with_reducible rfl))
  try simp only [Act.put, List.setIfInBounds_toArray, List.set_cons_zero, List.set_cons_succ]
  refine AnyTwo.takeAny HT12 (i := 13) (oi := ⟨some 24, _, _, _, _, _⟩) (v := ?v13) rfl (by kernel_rfl) (by kernel_rfl) (by decide +kernel) (by rfl) (fun _ _ _ h => h) (Or.inl ⟨by rfl, ?y13⟩) (ph_one (by kernel_rfl) hS1) ?r13
  case y13 => (intro w hSw; (try dsimp only at hSw); obtain ⟨x0, x1, x2, x3, x4, x5, x6, x7, x8, x9, x10, x11, x12, x13, x14, x15⟩ := HCELLS.out _ hSw; go_simp; try (with_reducible rfl))
  try simp only [Act.put, List.setIfInBounds_toArray, List.set_cons_zero, List.set_cons_succ]
  refine AnyTwo.takeAny HT12 (i := 14) (oi := ⟨some 25, _, _, _, _, _⟩) (v := ?v14) rfl (by kernel_rfl) (by kernel_rfl) (by decide +kernel) (by rfl) (fun _ _ _ h => h) (Or.inl ⟨by rfl, ?y14⟩) (ph_one (by kernel_rfl) hS1) ?r14
  case y14 => (intro w hSw; (try dsimp only at hSw); obtain ⟨x0, x1, x2, x3, x4, x5, x6, x7, x8, x9, x10, x11, x12, x13, x14, x15⟩ := HCELLS.out _ hSw; go_simp; try (with_reducible rfl))
  try simp only [Act.put, List.setIfInBounds_toArray, List.set_cons_zero, List.set_cons_succ]
  refine AnyTwo.takeAny HT12 (i := 15) (oi := ⟨some 26, _, _, _, _, _⟩) (v := ?v15) rfl (by kernel_rfl) (by kernel_rfl) (by decide +kernel) (by rfl) (fun _ _ _ h => h) (Or.inl ⟨by rfl, ?y15⟩) (ph_one (by kernel_rfl) hS1) ?r15
  case y15 => (intro w hSw; (try dsimp only at hSw); obtain ⟨x0, x1, x2, x3, x4, x5, x6, x7, x8, x9, x10, x11, x12, x13, x14, x15⟩ := HCELLS.out _ hSw; go_simp; try (with_reducible rfl))
  try simp only [Act.put, List.setIfInBounds_toArray, List.set_cons_zero, List.set_cons_succ]
  refine AnyTwo.takeAny HT12 (i := 16) (oi := ⟨some 27, _, _, _, _, _⟩) (v := ?v16) rfl (by kernel_rfl) (by kernel_rfl) (by decide +kernel) (by rfl) (fun _ _ _ h => h) (Or.inl ⟨by rfl, ?y16⟩) (ph_one (by kernel_rfl) hS1) ?r16
  case y16 => (intro w hSw; (try dsimp only at hSw); obtain ⟨x0, x1, x2, x3, x4, x5, x6, x7, x8, x9, x10, x11, x12, x13, x14, x15⟩ := HCELLS.out _ hSw; go_simp; try (with_reducible rfl))
  try simp only [Act.put, List.setIfInBounds_toArray, List.set_cons_zero, List.set_cons_succ]
  refine AnyTwo.takeAny HT12 (i := 17) (oi := ⟨some 28, _, _, _, _, _⟩) (v := ?v17) rfl (by kernel_rfl) (by kernel_rfl) (by decide +kernel) (by rfl) (fun _ _ _ h => h) (Or.inl ⟨by rfl, ?y17⟩) (ph_one (by kernel_rfl) hS1) ?r17
  case y17 => (intro w hSw; (try dsimp only at hSw); obtain ⟨x0, x1, x2, x3, x4, x5, x6, x7, x8, x9, x10, x11, x12, x13, x14, x15⟩ := HCELLS.out _ hSw; go_simp; try (with_reducible rfl))
  try simp only [Act.put, List.setIfInBounds_toArray, List.set_cons_zero, List.set_cons_succ]
  refine AnyTwo.takeAny HT12 (i := 18) (oi := ⟨some 29, _, _, _, _, _⟩) (v := ?v18) rfl (by kernel_rfl) (by kernel_rfl) (by decide +kernel) (by rfl) (fun _ _ _ h => h) (Or.inl ⟨by rfl, ?y18⟩) (ph_one (by kernel_rfl) hS1) ?r18
  case y18 => (intro w hSw; (try dsimp only at hSw); obtain ⟨x0, x1, x2, x3, x4, x5, x6, x7, x8, x9, x10, x11, x12, x13, x14, x15⟩ := HCELLS.out _ hSw; go_simp; try (with_reducible rfl))
  try simp only [Act.put, List.setIfInBounds_toArray, List.set_cons_zero, List.set_cons_succ]
  clear HT12 d00 d01 d02 d10 d11 d12 d20 d21 d22 d30 d31 d32 d40 d41 d42 y2
  generalize W0.drew = w0 at hS1 ⊢
  refine AnyTwo.fork4 (i0 := 19) (o0 := ⟨some 4, _, _, _, _, _⟩) (i1 := 20) (o1 := ⟨some 5, _, _, _, _, _⟩) (i2 := 21) (o2 := ⟨some 6, _, _, _, _, _⟩) (i3 := 22) (o3 := ⟨some 7, _, _, _, _, _⟩) (by kernel_rfl) rfl rfl rfl rfl (fun K hK => ?_) (fun K hK => ?_) (fun K hK => ?_) (fun K hK => ?_)
  ·go_simp
   have hS1' := bAfter hS1 (below1 w0 (.cells #[.int .i64 0, .int .i64 0, .slice none 0 0] 29))
   refine hK.out _ _ (ph_one (by kernel_rfl) hS1') ?_
   clear hK K
   have V4 := tuck (VarAt.new w0 0 0 (.slice none 0 0))
   have HG4 : Hid (W0.heap.size ≤ w0.heap.size) := tuck hS1.size
   have HL4 : Hid (w0.heap.size < (w0.alloc (.cells #[.int .i64 0, .int .i64 0, .slice none 0 0] 29)).heap.size) := tuck V4.out.facts.1
   try simp only [Act.put, List.setIfInBounds_toArray, List.set_cons_zero, List.set_cons_succ]
   generalize (w0.alloc (.cells #[.int .i64 0, .int .i64 0, .slice none 0 0] 29)) = w1 at *
   generalize w0.heap.size = g4 at *
   replace hS1 := hS1'
   clear hS1'
   refine AnyTwo.fork3 (i0 := 20) (o0 := ⟨some 5, _, _, _, _, _⟩) (i1 := 21) (o1 := ⟨some 6, _, _, _, _, _⟩) (i2 := 22) (o2 := ⟨some 7, _, _, _, _, _⟩) (by kernel_rfl) rfl rfl rfl (fun K hK => ?_) (fun K hK => ?_) (fun K hK => ?_)
   ·go_simp
    have hS1' := bAfter hS1 (below1 w1 (.cells #[.int .i64 0, .int .i64 0, .slice none 0 0] 29))
    refine hK.out _ _ (ph_one (by kernel_rfl) hS1') ?_
    clear hK K
    have V5 := tuck (VarAt.new w1 0 0 (.slice none 0 0))
    have HG5 : Hid (W0.heap.size ≤ w1.heap.size) := tuck hS1.size
    replace V4 := tuck (V4.out.below (below1 w1 (.cells #[.int .i64 0, .int .i64 0, .slice none 0 0] 29)))
    have N5 : Hid (g4 < w1.heap.size) := tuck HL4.out
    replace HL4 := tuck (Nat.lt_of_lt_of_le HL4.out (below1 w1 (.cells #[.int .i64 0, .int .i64 0, .slice none 0 0] 29)).size)
    have HL5 : Hid (w1.heap.size < (w1.alloc (.cells #[.int .i64 0, .int .i64 0, .slice none 0 0] 29)).heap.size) := tuck V5.out.facts.1
    try simp only [Act.put, List.setIfInBounds_toArray, List.set_cons_zero, List.set_cons_succ]
    generalize (w1.alloc (.cells #[.int .i64 0, .int .i64 0, .slice none 0 0] 29)) = w2 at *
    generalize w1.heap.size = g5 at *
    replace hS1 := hS1'
    clear hS1'
    refine AnyTwo.fork (i := 21) (j := 22) (o := ⟨some 6, _, _, _, _, _⟩) (o' := ⟨some 7, _, _, _, _, _⟩) (by kernel_rfl) rfl rfl (fun K hK => ?_) (fun K hK => ?_)
    ·go_simp
     have hS1' := bAfter hS1 (below1 w2 (.cells #[.int .i64 0, .int .i64 0, .slice none 0 0] 29))
     refine hK.out _ _ (ph_one (by kernel_rfl) hS1') ?_
     clear hK K
     have V6 := tuck (VarAt.new w2 0 0 (.slice none 0 0))
     have HG6 : Hid (W0.heap.size ≤ w2.heap.size) := tuck hS1.size
     replace V4 := tuck (V4.out.below (below1 w2 (.cells #[.int .i64 0, .int .i64 0, .slice none 0 0] 29)))
     replace V5 := tuck (V5.out.below (below1 w2 (.cells #[.int .i64 0, .int .i64 0, .slice none 0 0] 29)))
     have N6 : Hid (g4 < w2.heap.size ∧ g5 < w2.heap.size) := tuck ⟨HL4.out, HL5.out⟩
     replace HL4 := tuck (Nat.lt_of_lt_of_le HL4.out (below1 w2 (.cells #[.int .i64 0, .int .i64 0, .slice none 0 0] 29)).size)
     replace HL5 := tuck (Nat.lt_of_lt_of_le HL5.out (below1 w2 (.cells #[.int .i64 0, .int .i64 0, .slice none 0 0] 29)).size)
     have HL6 : Hid (w2.heap.size < (w2.alloc (.cells #[.int .i64 0, .int .i64 0, .slice none 0 0] 29)).heap.size) := tuck V6.out.facts.1
     try simp only [Act.put, List.setIfInBounds_toArray, List.set_cons_zero, List.set_cons_succ]
     generalize (w2.alloc (.cells #[.int .i64 0, .int .i64 0, .slice none 0 0] 29)) = w3 at *
     generalize w2.heap.size = g6 at *
     replace hS1 := hS1'
     clear hS1'
     refine AnyTwo.step (i := 22) (o := ⟨some 7, _, _, _, _, _⟩) (by kernel_rfl) rfl (fun K hK => ?_)
     ·go_simp
      have hS1' := bAfter hS1 (below1 w3 (.cells #[.int .i64 0, .int .i64 0, .slice none 0 0] 29))
      refine hK.out _ _ (ph_one (by kernel_rfl) hS1') ?_
      clear hK K
      have V7 := tuck (VarAt.new w3 0 0 (.slice none 0 0))
      have HG7 : Hid (W0.heap.size ≤ w3.heap.size) := tuck hS1.size
      replace V4 := tuck (V4.out.below (below1 w3 (.cells #[.int .i64 0, .int .i64 0, .slice none 0 0] 29)))
      replace V5 := tuck (V5.out.below (below1 w3 (.cells #[.int .i64 0, .int .i64 0, .slice none 0 0] 29)))
      replace V6 := tuck (V6.out.below (below1 w3 (.cells #[.int .i64 0, .int .i64 0, .slice none 0 0] 29)))
      have N7 : Hid (g4 < w3.heap.size ∧ g5 < w3.heap.size ∧ g6 < w3.heap.size) := tuck ⟨HL4.out, HL5.out, HL6.out⟩
      replace HL4 := tuck (Nat.lt_of_lt_of_le HL4.out (below1 w3 (.cells #[.int .i64 0, .int .i64 0, .slice none 0 0] 29)).size)
      replace HL5 := tuck (Nat.lt_of_lt_of_le HL5.out (below1 w3 (.cells #[.int .i64 0, .int .i64 0, .slice none 0 0] 29)).size)
      replace HL6 := tuck (Nat.lt_of_lt_of_le HL6.out (below1 w3 (.cells #[.int .i64 0, .int .i64 0, .slice none 0 0] 29)).size)
      have HL7 : Hid (w3.heap.size < (w3.alloc (.cells #[.int .i64 0, .int .i64 0, .slice none 0 0] 29)).heap.size) := tuck V7.out.facts.1
      try simp only [Act.put, List.setIfInBounds_toArray, List.set_cons_zero, List.set_cons_succ]
      generalize (w3.alloc (.cells #[.int .i64 0, .int .i64 0, .slice none 0 0] 29)) = w4 at *
      generalize w3.heap.size = g7 at *
      replace hS1 := hS1'
      clear hS1'
      have q45 : g4 ≠ g5 := Nat.ne_of_lt (N5.out)
      have q54 : g5 ≠ g4 := Ne.symm q45
      have q46 : g4 ≠ g6 := Nat.ne_of_lt (N6.out.1)
      have q64 : g6 ≠ g4 := Ne.symm q46
      have q56 : g5 ≠ g6 := Nat.ne_of_lt (N6.out.2)
      have q65 : g6 ≠ g5 := Ne.symm q56
      have q47 : g4 ≠ g7 := Nat.ne_of_lt (N7.out.1)
      have q74 : g7 ≠ g4 := Ne.symm q47
      have q57 : g5 ≠ g7 := Nat.ne_of_lt (N7.out.2.1)
      have q75 : g7 ≠ g5 := Ne.symm q57
      have q67 : g6 ≠ g7 := Nat.ne_of_lt (N7.out.2.2)
      have q76 : g7 ≠ g6 := Ne.symm q67
      obtain ⟨z4, f0, f1, f2, ff⟩ := V4.out.facts
      refine AnyTwo.step (i := 23) (o := ⟨none, _, _, _, _, _⟩) (by kernel_rfl) rfl (fun K hK => ?_)
      go_simp
      have hS1' := bSet3 hS1 HG4.out 0 1 2 (.int .i64 P.kind) (.int .i64 P.num) (.slice a0 P.kids.length n0)
      refine hK.out _ _ (ph_one (by kernel_rfl) hS1') ?_
      clear hK K f0 f1 f2 ff
      have V4' : Hid (VarAt g4 P.kind P.num (.slice a0 P.kids.length n0) (((w4.setCell ⟨g4, 0, none⟩ (.int .i64 P.kind)).setCell ⟨g4, 1, none⟩ (.int .i64 P.num)).setCell ⟨g4, 2, none⟩ (.slice a0 P.kids.length n0))) := tuck V4.out.set
      replace V5 := tuck (V5.out.far3 q54 0 1 2 (.int .i64 P.kind) (.int .i64 P.num) (.slice a0 P.kids.length n0))
      replace V6 := tuck (V6.out.far3 q64 0 1 2 (.int .i64 P.kind) (.int .i64 P.num) (.slice a0 P.kids.length n0))
      replace V7 := tuck (V7.out.far3 q74 0 1 2 (.int .i64 P.kind) (.int .i64 P.num) (.slice a0 P.kids.length n0))
      clear V4
      generalize (((w4.setCell ⟨g4, 0, none⟩ (.int .i64 P.kind)).setCell ⟨g4, 1, none⟩ (.int .i64 P.num)).setCell ⟨g4, 2, none⟩ (.slice a0 P.kids.length n0)) = v4 at *
      replace hS1 := hS1'
      clear hS1'
      obtain ⟨z5, f0, f1, f2, ff⟩ := V5.out.facts
      refine AnyTwo.step (i := 24) (o := ⟨none, _, _, _, _, _⟩) (by kernel_rfl) rfl (fun K hK => ?_)
      go_simp
      have hS1' := bSet3 hS1 HG5.out 0 1 2 (.int .i64 Z.kind) (.int .i64 Z.num) (.slice a1 Z.kids.length n1)
      refine hK.out _ _ (ph_one (by kernel_rfl) hS1') ?_
      clear hK K f0 f1 f2 ff
      replace V4' := tuck (V4'.out.far3 q45 0 1 2 (.int .i64 Z.kind) (.int .i64 Z.num) (.slice a1 Z.kids.length n1))
      have V5' : Hid (VarAt g5 Z.kind Z.num (.slice a1 Z.kids.length n1) (((v4.setCell ⟨g5, 0, none⟩ (.int .i64 Z.kind)).setCell ⟨g5, 1, none⟩ (.int .i64 Z.num)).setCell ⟨g5, 2, none⟩ (.slice a1 Z.kids.length n1))) := tuck V5.out.set
      replace V6 := tuck (V6.out.far3 q65 0 1 2 (.int .i64 Z.kind) (.int .i64 Z.num) (.slice a1 Z.kids.length n1))
      replace V7 := tuck (V7.out.far3 q75 0 1 2 (.int .i64 Z.kind) (.int .i64 Z.num) (.slice a1 Z.kids.length n1))
      clear V5
      generalize (((v4.setCell ⟨g5, 0, none⟩ (.int .i64 Z.kind)).setCell ⟨g5, 1, none⟩ (.int .i64 Z.num)).setCell ⟨g5, 2, none⟩ (.slice a1 Z.kids.length n1)) = v5 at *
      replace hS1 := hS1'
      clear hS1'
      obtain ⟨z6, f0, f1, f2, ff⟩ := V6.out.facts
      refine AnyTwo.step (i := 25) (o := ⟨none, _, _, _, _, _⟩) (by kernel_rfl) rfl (fun K hK => ?_)
      go_simp
      have hS1' := bSet3 hS1 HG6.out 0 1 2 (.int .i64 S.kind) (.int .i64 S.num) (.slice a2 S.kids.length n2)
      refine hK.out _ _ (ph_one (by kernel_rfl) hS1') ?_
      clear hK K f0 f1 f2 ff
      replace V4' := tuck (V4'.out.far3 q46 0 1 2 (.int .i64 S.kind) (.int .i64 S.num) (.slice a2 S.kids.length n2))
      replace V5' := tuck (V5'.out.far3 q56 0 1 2 (.int .i64 S.kind) (.int .i64 S.num) (.slice a2 S.kids.length n2))
      have V6' : Hid (VarAt g6 S.kind S.num (.slice a2 S.kids.length n2) (((v5.setCell ⟨g6, 0, none⟩ (.int .i64 S.kind)).setCell ⟨g6, 1, none⟩ (.int .i64 S.num)).setCell ⟨g6, 2, none⟩ (.slice a2 S.kids.length n2))) := tuck V6.out.set
      replace V7 := tuck (V7.out.far3 q76 0 1 2 (.int .i64 S.kind) (.int .i64 S.num) (.slice a2 S.kids.length n2))
      clear V6
      generalize (((v5.setCell ⟨g6, 0, none⟩ (.int .i64 S.kind)).setCell ⟨g6, 1, none⟩ (.int .i64 S.num)).setCell ⟨g6, 2, none⟩ (.slice a2 S.kids.length n2)) = v6 at *
      replace hS1 := hS1'
      clear hS1'
      obtain ⟨z7, f0, f1, f2, ff⟩ := V7.out.facts
      refine AnyTwo.step (i := 26) (o := ⟨none, _, _, _, _, _⟩) (by kernel_rfl) rfl (fun K hK => ?_)
      go_simp
      have hS1' := bSet3 hS1 HG7.out 0 1 2 (.int .i64 B.kind) (.int .i64 B.num) (.slice a4 B.kids.length n4)
      refine hK.out _ _ (ph_end (by kernel_rfl) hS1') ?_
      clear hK K f0 f1 f2 ff
      replace V4' := tuck (V4'.out.far3 q47 0 1 2 (.int .i64 B.kind) (.int .i64 B.num) (.slice a4 B.kids.length n4))
      replace V5' := tuck (V5'.out.far3 q57 0 1 2 (.int .i64 B.kind) (.int .i64 B.num) (.slice a4 B.kids.length n4))
      replace V6' := tuck (V6'.out.far3 q67 0 1 2 (.int .i64 B.kind) (.int .i64 B.num) (.slice a4 B.kids.length n4))
      have V7' : Hid (VarAt g7 B.kind B.num (.slice a4 B.kids.length n4) (((v6.setCell ⟨g7, 0, none⟩ (.int .i64 B.kind)).setCell ⟨g7, 1, none⟩ (.int .i64 B.num)).setCell ⟨g7, 2, none⟩ (.slice a4 B.kids.length n4))) := tuck V7.out.set
      clear V7
      generalize (((v6.setCell ⟨g7, 0, none⟩ (.int .i64 B.kind)).setCell ⟨g7, 1, none⟩ (.int .i64 B.num)).setCell ⟨g7, 2, none⟩ (.slice a4 B.kids.length n4)) = v7 at *
      replace hS1 := hS1'
      clear hS1'
      refine AnyTwo.done (by kernel_rfl) ?_ _
      go_wp2_with fail
      go_meet
      exact ⟨g4, g5, g6, g7, rfl, rfl, rfl, rfl, hS1, V4'.out, V5'.out, V6'.out, V7'.out⟩
    ·go_simp
     have hS1' := bAfter hS1 (below1 w2 (.cells #[.int .i64 0, .int .i64 0, .slice none 0 0] 29))
     refine hK.out _ _ (ph_one (by kernel_rfl) hS1') ?_
     clear hK K
     have V7 := tuck (VarAt.new w2 0 0 (.slice none 0 0))
     have HG7 : Hid (W0.heap.size ≤ w2.heap.size) := tuck hS1.size
     replace V4 := tuck (V4.out.below (below1 w2 (.cells #[.int .i64 0, .int .i64 0, .slice none 0 0] 29)))
     replace V5 := tuck (V5.out.below (below1 w2 (.cells #[.int .i64 0, .int .i64 0, .slice none 0 0] 29)))
     have N7 : Hid (g4 < w2.heap.size ∧ g5 < w2.heap.size) := tuck ⟨HL4.out, HL5.out⟩
     replace HL4 := tuck (Nat.lt_of_lt_of_le HL4.out (below1 w2 (.cells #[.int .i64 0, .int .i64 0, .slice none 0 0] 29)).size)
     replace HL5 := tuck (Nat.lt_of_lt_of_le HL5.out (below1 w2 (.cells #[.int .i64 0, .int .i64 0, .slice none 0 0] 29)).size)
     have HL7 : Hid (w2.heap.size < (w2.alloc (.cells #[.int .i64 0, .int .i64 0, .slice none 0 0] 29)).heap.size) := tuck V7.out.facts.1
     try simp only [Act.put, List.setIfInBounds_toArray, List.set_cons_zero, List.set_cons_succ]
     generalize (w2.alloc (.cells #[.int .i64 0, .int .i64 0, .slice none 0 0] 29)) = w3 at *
     generalize w2.heap.size = g7 at *
     replace hS1 := hS1'
     clear hS1'
     refine AnyTwo.step (i := 21) (o := ⟨some 6, _, _, _, _, _⟩) (by kernel_rfl) rfl (fun K hK => ?_)
     ·go_simp
      have hS1' := bAfter hS1 (below1 w3 (.cells #[.int .i64 0, .int .i64 0, .slice none 0 0] 29))
      refine hK.out _ _ (ph_one (by kernel_rfl) hS1') ?_
      clear hK K
      have V6 := tuck (VarAt.new w3 0 0 (.slice none 0 0))
      have HG6 : Hid (W0.heap.size ≤ w3.heap.size) := tuck hS1.size
      replace V4 := tuck (V4.out.below (below1 w3 (.cells #[.int .i64 0, .int .i64 0, .slice none 0 0] 29)))
      replace V5 := tuck (V5.out.below (below1 w3 (.cells #[.int .i64 0, .int .i64 0, .slice none 0 0] 29)))
      replace V7 := tuck (V7.out.below (below1 w3 (.cells #[.int .i64 0, .int .i64 0, .slice none 0 0] 29)))
      have N6 : Hid (g4 < w3.heap.size ∧ g5 < w3.heap.size ∧ g7 < w3.heap.size) := tuck ⟨HL4.out, HL5.out, HL7.out⟩
      replace HL4 := tuck (Nat.lt_of_lt_of_le HL4.out (below1 w3 (.cells #[.int .i64 0, .int .i64 0, .slice none 0 0] 29)).size)
      replace HL5 := tuck (Nat.lt_of_lt_of_le HL5.out (below1 w3 (.cells #[.int .i64 0, .int .i64 0, .slice none 0 0] 29)).size)
      replace HL7 := tuck (Nat.lt_of_lt_of_le HL7.out (below1 w3 (.cells #[.int .i64 0, .int .i64 0, .slice none 0 0] 29)).size)
      have HL6 : Hid (w3.heap.size < (w3.alloc (.cells #[.int .i64 0, .int .i64 0, .slice none 0 0] 29)).heap.size) := tuck V6.out.facts.1
      try simp only [Act.put, List.setIfInBounds_toArray, List.set_cons_zero, List.set_cons_succ]
      generalize (w3.alloc (.cells #[.int .i64 0, .int .i64 0, .slice none 0 0] 29)) = w4 at *
      generalize w3.heap.size = g6 at *
      replace hS1 := hS1'
      clear hS1'
      have q45 : g4 ≠ g5 := Nat.ne_of_lt (N5.out)
      have q54 : g5 ≠ g4 := Ne.symm q45
      have q47 : g4 ≠ g7 := Nat.ne_of_lt (N7.out.1)
      have q74 : g7 ≠ g4 := Ne.symm q47
      have q57 : g5 ≠ g7 := Nat.ne_of_lt (N7.out.2)
      have q75 : g7 ≠ g5 := Ne.symm q57
      have q46 : g4 ≠ g6 := Nat.ne_of_lt (N6.out.1)
      have q64 : g6 ≠ g4 := Ne.symm q46
      have q56 : g5 ≠ g6 := Nat.ne_of_lt (N6.out.2.1)
      have q65 : g6 ≠ g5 := Ne.symm q56
      have q76 : g7 ≠ g6 := Nat.ne_of_lt (N6.out.2.2)
      have q67 : g6 ≠ g7 := Ne.symm q76
      obtain ⟨z4, f0, f1, f2, ff⟩ := V4.out.facts
      refine AnyTwo.step (i := 23) (o := ⟨none, _, _, _, _, _⟩) (by kernel_rfl) rfl (fun K hK => ?_)
      go_simp
      have hS1' := bSet3 hS1 HG4.out 0 1 2 (.int .i64 P.kind) (.int .i64 P.num) (.slice a0 P.kids.length n0)
      refine hK.out _ _ (ph_one (by kernel_rfl) hS1') ?_
      clear hK K f0 f1 f2 ff
      have V4' : Hid (VarAt g4 P.kind P.num (.slice a0 P.kids.length n0) (((w4.setCell ⟨g4, 0, none⟩ (.int .i64 P.kind)).setCell ⟨g4, 1, none⟩ (.int .i64 P.num)).setCell ⟨g4, 2, none⟩ (.slice a0 P.kids.length n0))) := tuck V4.out.set
      replace V5 := tuck (V5.out.far3 q54 0 1 2 (.int .i64 P.kind) (.int .i64 P.num) (.slice a0 P.kids.length n0))
      replace V6 := tuck (V6.out.far3 q64 0 1 2 (.int .i64 P.kind) (.int .i64 P.num) (.slice a0 P.kids.length n0))
      replace V7 := tuck (V7.out.far3 q74 0 1 2 (.int .i64 P.kind) (.int .i64 P.num) (.slice a0 P.kids.length n0))
      clear V4
      generalize (((w4.setCell ⟨g4, 0, none⟩ (.int .i64 P.kind)).setCell ⟨g4, 1, none⟩ (.int .i64 P.num)).setCell ⟨g4, 2, none⟩ (.slice a0 P.kids.length n0)) = v4 at *
      replace hS1 := hS1'
      clear hS1'
      obtain ⟨z5, f0, f1, f2, ff⟩ := V5.out.facts
      refine AnyTwo.step (i := 24) (o := ⟨none, _, _, _, _, _⟩) (by kernel_rfl) rfl (fun K hK => ?_)
      go_simp
      have hS1' := bSet3 hS1 HG5.out 0 1 2 (.int .i64 Z.kind) (.int .i64 Z.num) (.slice a1 Z.kids.length n1)
      refine hK.out _ _ (ph_one (by kernel_rfl) hS1') ?_
      clear hK K f0 f1 f2 ff
      replace V4' := tuck (V4'.out.far3 q45 0 1 2 (.int .i64 Z.kind) (.int .i64 Z.num) (.slice a1 Z.kids.length n1))
      have V5' : Hid (VarAt g5 Z.kind Z.num (.slice a1 Z.kids.length n1) (((v4.setCell ⟨g5, 0, none⟩ (.int .i64 Z.kind)).setCell ⟨g5, 1, none⟩ (.int .i64 Z.num)).setCell ⟨g5, 2, none⟩ (.slice a1 Z.kids.length n1))) := tuck V5.out.set
      replace V6 := tuck (V6.out.far3 q65 0 1 2 (.int .i64 Z.kind) (.int .i64 Z.num) (.slice a1 Z.kids.length n1))
      replace V7 := tuck (V7.out.far3 q75 0 1 2 (.int .i64 Z.kind) (.int .i64 Z.num) (.slice a1 Z.kids.length n1))
      clear V5
      generalize (((v4.setCell ⟨g5, 0, none⟩ (.int .i64 Z.kind)).setCell ⟨g5, 1, none⟩ (.int .i64 Z.num)).setCell ⟨g5, 2, none⟩ (.slice a1 Z.kids.length n1)) = v5 at *
      replace hS1 := hS1'
      clear hS1'
      obtain ⟨z6, f0, f1, f2, ff⟩ := V6.out.facts
      refine AnyTwo.step (i := 25) (o := ⟨none, _, _, _, _, _⟩) (by kernel_rfl) rfl (fun K hK => ?_)
      go_simp
      have hS1' := bSet3 hS1 HG6.out 0 1 2 (.int .i64 S.kind) (.int .i64 S.num) (.slice a2 S.kids.length n2)
      refine hK.out _ _ (ph_one (by kernel_rfl) hS1') ?_
      clear hK K f0 f1 f2 ff
      replace V4' := tuck (V4'.out.far3 q46 0 1 2 (.int .i64 S.kind) (.int .i64 S.num) (.slice a2 S.kids.length n2))
      replace V5' := tuck (V5'.out.far3 q56 0 1 2 (.int .i64 S.kind) (.int .i64 S.num) (.slice a2 S.kids.length n2))
      have V6' : Hid (VarAt g6 S.kind S.num (.slice a2 S.kids.length n2) (((v5.setCell ⟨g6, 0, none⟩ (.int .i64 S.kind)).setCell ⟨g6, 1, none⟩ (.int .i64 S.num)).setCell ⟨g6, 2, none⟩ (.slice a2 S.kids.length n2))) := tuck V6.out.set
      replace V7 := tuck (V7.out.far3 q76 0 1 2 (.int .i64 S.kind) (.int .i64 S.num) (.slice a2 S.kids.length n2))
      clear V6
      generalize (((v5.setCell ⟨g6, 0, none⟩ (.int .i64 S.kind)).setCell ⟨g6, 1, none⟩ (.int .i64 S.num)).setCell ⟨g6, 2, none⟩ (.slice a2 S.kids.length n2)) = v6 at *
      replace hS1 := hS1'
      clear hS1'
      obtain ⟨z7, f0, f1, f2, ff⟩ := V7.out.facts
      refine AnyTwo.step (i := 26) (o := ⟨none, _, _, _, _, _⟩) (by kernel_rfl) rfl (fun K hK => ?_)
      go_simp
      have hS1' := bSet3 hS1 HG7.out 0 1 2 (.int .i64 B.kind) (.int .i64 B.num) (.slice a4 B.kids.length n4)
      refine hK.out _ _ (ph_end (by kernel_rfl) hS1') ?_
      clear hK K f0 f1 f2 ff
      replace V4' := tuck (V4'.out.far3 q47 0 1 2 (.int .i64 B.kind) (.int .i64 B.num) (.slice a4 B.kids.length n4))
      replace V5' := tuck (V5'.out.far3 q57 0 1 2 (.int .i64 B.kind) (.int .i64 B.num) (.slice a4 B.kids.length n4))
      replace V6' := tuck (V6'.out.far3 q67 0 1 2 (.int .i64 B.kind) (.int .i64 B.num) (.slice a4 B.kids.length n4))
      have V7' : Hid (VarAt g7 B.kind B.num (.slice a4 B.kids.length n4) (((v6.setCell ⟨g7, 0, none⟩ (.int .i64 B.kind)).setCell ⟨g7, 1, none⟩ (.int .i64 B.num)).setCell ⟨g7, 2, none⟩ (.slice a4 B.kids.length n4))) := tuck V7.out.set
      clear V7
      generalize (((v6.setCell ⟨g7, 0, none⟩ (.int .i64 B.kind)).setCell ⟨g7, 1, none⟩ (.int .i64 B.num)).setCell ⟨g7, 2, none⟩ (.slice a4 B.kids.length n4)) = v7 at *
      replace hS1 := hS1'
      clear hS1'
      refine AnyTwo.done (by kernel_rfl) ?_ _
      go_wp2_with fail
      go_meet
      exact ⟨g4, g5, g6, g7, rfl, rfl, rfl, rfl, hS1, V4'.out, V5'.out, V6'.out, V7'.out⟩
   ·go_simp
    have hS1' := bAfter hS1 (below1 w1 (.cells #[.int .i64 0, .int .i64 0, .slice none 0 0] 29))
    refine hK.out _ _ (ph_one (by kernel_rfl) hS1') ?_
    clear hK K
    have V6 := tuck (VarAt.new w1 0 0 (.slice none 0 0))
    have HG6 : Hid (W0.heap.size ≤ w1.heap.size) := tuck hS1.size
    replace V4 := tuck (V4.out.below (below1 w1 (.cells #[.int .i64 0, .int .i64 0, .slice none 0 0] 29)))
    have N6 : Hid (g4 < w1.heap.size) := tuck HL4.out
    replace HL4 := tuck (Nat.lt_of_lt_of_le HL4.out (below1 w1 (.cells #[.int .i64 0, .int .i64 0, .slice none 0 0] 29)).size)
    have HL6 : Hid (w1.heap.size < (w1.alloc (.cells #[.int .i64 0, .int .i64 0, .slice none 0 0] 29)).heap.size) := tuck V6.out.facts.1
    try simp only [Act.put, List.setIfInBounds_toArray, List.set_cons_zero, List.set_cons_succ]
    generalize (w1.alloc (.cells #[.int .i64 0, .int .i64 0, .slice none 0 0] 29)) = w2 at *
    generalize w1.heap.size = g6 at *
    replace hS1 := hS1'
    clear hS1'
    refine AnyTwo.fork (i := 20) (j := 22) (o := ⟨some 5, _, _, _, _, _⟩) (o' := ⟨some 7, _, _, _, _, _⟩) (by kernel_rfl) rfl rfl (fun K hK => ?_) (fun K hK => ?_)
    ·go_simp
     have hS1' := bAfter hS1 (below1 w2 (.cells #[.int .i64 0, .int .i64 0, .slice none 0 0] 29))
     refine hK.out _ _ (ph_one (by kernel_rfl) hS1') ?_
     clear hK K
     have V5 := tuck (VarAt.new w2 0 0 (.slice none 0 0))
     have HG5 : Hid (W0.heap.size ≤ w2.heap.size) := tuck hS1.size
     replace V4 := tuck (V4.out.below (below1 w2 (.cells #[.int .i64 0, .int .i64 0, .slice none 0 0] 29)))
     replace V6 := tuck (V6.out.below (below1 w2 (.cells #[.int .i64 0, .int .i64 0, .slice none 0 0] 29)))
     have N5 : Hid (g4 < w2.heap.size ∧ g6 < w2.heap.size) := tuck ⟨HL4.out, HL6.out⟩
     replace HL4 := tuck (Nat.lt_of_lt_of_le HL4.out (below1 w2 (.cells #[.int .i64 0, .int .i64 0, .slice none 0 0] 29)).size)
     replace HL6 := tuck (Nat.lt_of_lt_of_le HL6.out (below1 w2 (.cells #[.int .i64 0, .int .i64 0, .slice none 0 0] 29)).size)
     have HL5 : Hid (w2.heap.size < (w2.alloc (.cells #[.int .i64 0, .int .i64 0, .slice none 0 0] 29)).heap.size) := tuck V5.out.facts.1
     try simp only [Act.put, List.setIfInBounds_toArray, List.set_cons_zero, List.set_cons_succ]
     generalize (w2.alloc (.cells #[.int .i64 0, .int .i64 0, .slice none 0 0] 29)) = w3 at *
     generalize w2.heap.size = g5 at *
     replace hS1 := hS1'
     clear hS1'
     refine AnyTwo.step (i := 22) (o := ⟨some 7, _, _, _, _, _⟩) (by kernel_rfl) rfl (fun K hK => ?_)
     ·go_simp
      have hS1' := bAfter hS1 (below1 w3 (.cells #[.int .i64 0, .int .i64 0, .slice none 0 0] 29))
      refine hK.out _ _ (ph_one (by kernel_rfl) hS1') ?_
      clear hK K
      have V7 := tuck (VarAt.new w3 0 0 (.slice none 0 0))
      have HG7 : Hid (W0.heap.size ≤ w3.heap.size) := tuck hS1.size
      replace V4 := tuck (V4.out.below (below1 w3 (.cells #[.int .i64 0, .int .i64 0, .slice none 0 0] 29)))
      replace V6 := tuck (V6.out.below (below1 w3 (.cells #[.int .i64 0, .int .i64 0, .slice none 0 0] 29)))
      replace V5 := tuck (V5.out.below (below1 w3 (.cells #[.int .i64 0, .int .i64 0, .slice none 0 0] 29)))
      have N7 : Hid (g4 < w3.heap.size ∧ g6 < w3.heap.size ∧ g5 < w3.heap.size) := tuck ⟨HL4.out, HL6.out, HL5.out⟩
      replace HL4 := tuck (Nat.lt_of_lt_of_le HL4.out (below1 w3 (.cells #[.int .i64 0, .int .i64 0, .slice none 0 0] 29)).size)
      replace HL6 := tuck (Nat.lt_of_lt_of_le HL6.out (below1 w3 (.cells #[.int .i64 0, .int .i64 0, .slice none 0 0] 29)).size)
      replace HL5 := tuck (Nat.lt_of_lt_of_le HL5.out (below1 w3 (.cells #[.int .i64 0, .int .i64 0, .slice none 0 0] 29)).size)
      have HL7 : Hid (w3.heap.size < (w3.alloc (.cells #[.int .i64 0, .int .i64 0, .slice none 0 0] 29)).heap.size) := tuck V7.out.facts.1
      try simp only [Act.put, List.setIfInBounds_toArray, List.set_cons_zero, List.set_cons_succ]
      generalize (w3.alloc (.cells #[.int .i64 0, .int .i64 0, .slice none 0 0] 29)) = w4 at *
      generalize w3.heap.size = g7 at *
      replace hS1 := hS1'
      clear hS1'
      have q46 : g4 ≠ g6 := Nat.ne_of_lt (N6.out)
      have q64 : g6 ≠ g4 := Ne.symm q46
      have q45 : g4 ≠ g5 := Nat.ne_of_lt (N5.out.1)
      have q54 : g5 ≠ g4 := Ne.symm q45
      have q65 : g6 ≠ g5 := Nat.ne_of_lt (N5.out.2)
      have q56 : g5 ≠ g6 := Ne.symm q65
      have q47 : g4 ≠ g7 := Nat.ne_of_lt (N7.out.1)
      have q74 : g7 ≠ g4 := Ne.symm q47
      have q67 : g6 ≠ g7 := Nat.ne_of_lt (N7.out.2.1)
      have q76 : g7 ≠ g6 := Ne.symm q67
      have q57 : g5 ≠ g7 := Nat.ne_of_lt (N7.out.2.2)
      have q75 : g7 ≠ g5 := Ne.symm q57
      obtain ⟨z4, f0, f1, f2, ff⟩ := V4.out.facts
      refine AnyTwo.step (i := 23) (o := ⟨none, _, _, _, _, _⟩) (by kernel_rfl) rfl (fun K hK => ?_)
      go_simp
      have hS1' := bSet3 hS1 HG4.out 0 1 2 (.int .i64 P.kind) (.int .i64 P.num) (.slice a0 P.kids.length n0)
      refine hK.out _ _ (ph_one (by kernel_rfl) hS1') ?_
      clear hK K f0 f1 f2 ff
      have V4' : Hid (VarAt g4 P.kind P.num (.slice a0 P.kids.length n0) (((w4.setCell ⟨g4, 0, none⟩ (.int .i64 P.kind)).setCell ⟨g4, 1, none⟩ (.int .i64 P.num)).setCell ⟨g4, 2, none⟩ (.slice a0 P.kids.length n0))) := tuck V4.out.set
      replace V5 := tuck (V5.out.far3 q54 0 1 2 (.int .i64 P.kind) (.int .i64 P.num) (.slice a0 P.kids.length n0))
      replace V6 := tuck (V6.out.far3 q64 0 1 2 (.int .i64 P.kind) (.int .i64 P.num) (.slice a0 P.kids.length n0))
      replace V7 := tuck (V7.out.far3 q74 0 1 2 (.int .i64 P.kind) (.int .i64 P.num) (.slice a0 P.kids.length n0))
      clear V4
      generalize (((w4.setCell ⟨g4, 0, none⟩ (.int .i64 P.kind)).setCell ⟨g4, 1, none⟩ (.int .i64 P.num)).setCell ⟨g4, 2, none⟩ (.slice a0 P.kids.length n0)) = v4 at *
      replace hS1 := hS1'
      clear hS1'
      obtain ⟨z5, f0, f1, f2, ff⟩ := V5.out.facts
      refine AnyTwo.step (i := 24) (o := ⟨none, _, _, _, _, _⟩) (by kernel_rfl) rfl (fun K hK => ?_)
      go_simp
      have hS1' := bSet3 hS1 HG5.out 0 1 2 (.int .i64 Z.kind) (.int .i64 Z.num) (.slice a1 Z.kids.length n1)
      refine hK.out _ _ (ph_one (by kernel_rfl) hS1') ?_
      clear hK K f0 f1 f2 ff
      replace V4' := tuck (V4'.out.far3 q45 0 1 2 (.int .i64 Z.kind) (.int .i64 Z.num) (.slice a1 Z.kids.length n1))
      have V5' : Hid (VarAt g5 Z.kind Z.num (.slice a1 Z.kids.length n1) (((v4.setCell ⟨g5, 0, none⟩ (.int .i64 Z.kind)).setCell ⟨g5, 1, none⟩ (.int .i64 Z.num)).setCell ⟨g5, 2, none⟩ (.slice a1 Z.kids.length n1))) := tuck V5.out.set
      replace V6 := tuck (V6.out.far3 q65 0 1 2 (.int .i64 Z.kind) (.int .i64 Z.num) (.slice a1 Z.kids.length n1))
      replace V7 := tuck (V7.out.far3 q75 0 1 2 (.int .i64 Z.kind) (.int .i64 Z.num) (.slice a1 Z.kids.length n1))
      clear V5
      generalize (((v4.setCell ⟨g5, 0, none⟩ (.int .i64 Z.kind)).setCell ⟨g5, 1, none⟩ (.int .i64 Z.num)).setCell ⟨g5, 2, none⟩ (.slice a1 Z.kids.length n1)) = v5 at *
      replace hS1 := hS1'
      clear hS1'
      obtain ⟨z6, f0, f1, f2, ff⟩ := V6.out.facts
      refine AnyTwo.step (i := 25) (o := ⟨none, _, _, _, _, _⟩) (by kernel_rfl) rfl (fun K hK => ?_)
      go_simp
      have hS1' := bSet3 hS1 HG6.out 0 1 2 (.int .i64 S.kind) (.int .i64 S.num) (.slice a2 S.kids.length n2)
      refine hK.out _ _ (ph_one (by kernel_rfl) hS1') ?_
      clear hK K f0 f1 f2 ff
      replace V4' := tuck (V4'.out.far3 q46 0 1 2 (.int .i64 S.kind) (.int .i64 S.num) (.slice a2 S.kids.length n2))
      replace V5' := tuck (V5'.out.far3 q56 0 1 2 (.int .i64 S.kind) (.int .i64 S.num) (.slice a2 S.kids.length n2))
      have V6' : Hid (VarAt g6 S.kind S.num (.slice a2 S.kids.length n2) (((v5.setCell ⟨g6, 0, none⟩ (.int .i64 S.kind)).setCell ⟨g6, 1, none⟩ (.int .i64 S.num)).setCell ⟨g6, 2, none⟩ (.slice a2 S.kids.length n2))) := tuck V6.out.set
      replace V7 := tuck (V7.out.far3 q76 0 1 2 (.int .i64 S.kind) (.int .i64 S.num) (.slice a2 S.kids.length n2))
      clear V6
      generalize (((v5.setCell ⟨g6, 0, none⟩ (.int .i64 S.kind)).setCell ⟨g6, 1, none⟩ (.int .i64 S.num)).setCell ⟨g6, 2, none⟩ (.slice a2 S.kids.length n2)) = v6 at *
      replace hS1 := hS1'
      clear hS1'
      obtain ⟨z7, f0, f1, f2, ff⟩ := V7.out.facts
      refine AnyTwo.step (i := 26) (o := ⟨none, _, _, _, _, _⟩) (by kernel_rfl) rfl (fun K hK => ?_)
      go_simp
      have hS1' := bSet3 hS1 HG7.out 0 1 2 (.int .i64 B.kind) (.int .i64 B.num) (.slice a4 B.kids.length n4)
      refine hK.out _ _ (ph_end (by kernel_rfl) hS1') ?_
      clear hK K f0 f1 f2 ff
      replace V4' := tuck (V4'.out.far3 q47 0 1 2 (.int .i64 B.kind) (.int .i64 B.num) (.slice a4 B.kids.length n4))
      replace V5' := tuck (V5'.out.far3 q57 0 1 2 (.int .i64 B.kind) (.int .i64 B.num) (.slice a4 B.kids.length n4))
      replace V6' := tuck (V6'.out.far3 q67 0 1 2 (.int .i64 B.kind) (.int .i64 B.num) (.slice a4 B.kids.length n4))
      have V7' : Hid (VarAt g7 B.kind B.num (.slice a4 B.kids.length n4) (((v6.setCell ⟨g7, 0, none⟩ (.int .i64 B.kind)).setCell ⟨g7, 1, none⟩ (.int .i64 B.num)).setCell ⟨g7, 2, none⟩ (.slice a4 B.kids.length n4))) := tuck V7.out.set
      clear V7
      generalize (((v6.setCell ⟨g7, 0, none⟩ (.int .i64 B.kind)).setCell ⟨g7, 1, none⟩ (.int .i64 B.num)).setCell ⟨g7, 2, none⟩ (.slice a4 B.kids.length n4)) = v7 at *
      replace hS1 := hS1'
      clear hS1'
      refine AnyTwo.done (by kernel_rfl) ?_ _
      go_wp2_with fail
      go_meet
      exact ⟨g4, g5, g6, g7, rfl, rfl, rfl, rfl, hS1, V4'.out, V5'.out, V6'.out, V7'.out⟩
    ·go_simp
     have hS1' := bAfter hS1 (below1 w2 (.cells #[.int .i64 0, .int .i64 0, .slice none 0 0] 29))
     refine hK.out _ _ (ph_one (by kernel_rfl) hS1') ?_
     clear hK K
     have V7 := tuck (VarAt.new w2 0 0 (.slice none 0 0))
     have HG7 : Hid (W0.heap.size ≤ w2.heap.size) := tuck hS1.size
     replace V4 := tuck (V4.out.below (below1 w2 (.cells #[.int .i64 0, .int .i64 0, .slice none 0 0] 29)))
     replace V6 := tuck (V6.out.below (below1 w2 (.cells #[.int .i64 0, .int .i64 0, .slice none 0 0] 29)))
     have N7 : Hid (g4 < w2.heap.size ∧ g6 < w2.heap.size) := tuck ⟨HL4.out, HL6.out⟩
     replace HL4 := tuck (Nat.lt_of_lt_of_le HL4.out (below1 w2 (.cells #[.int .i64 0, .int .i64 0, .slice none 0 0] 29)).size)
     replace HL6 := tuck (Nat.lt_of_lt_of_le HL6.out (below1 w2 (.cells #[.int .i64 0, .int .i64 0, .slice none 0 0] 29)).size)
     have HL7 : Hid (w2.heap.size < (w2.alloc (.cells #[.int .i64 0, .int .i64 0, .slice none 0 0] 29)).heap.size) := tuck V7.out.facts.1
     try simp only [Act.put, List.setIfInBounds_toArray, List.set_cons_zero, List.set_cons_succ]
     generalize (w2.alloc (.cells #[.int .i64 0, .int .i64 0, .slice none 0 0] 29)) = w3 at *
     generalize w2.heap.size = g7 at *
     replace hS1 := hS1'
     clear hS1'
     refine AnyTwo.step (i := 20) (o := ⟨some 5, _, _, _, _, _⟩) (by kernel_rfl) rfl (fun K hK => ?_)
     ·go_simp
      have hS1' := bAfter hS1 (below1 w3 (.cells #[.int .i64 0, .int .i64 0, .slice none 0 0] 29))
      refine hK.out _ _ (ph_one (by kernel_rfl) hS1') ?_
      clear hK K
      have V5 := tuck (VarAt.new w3 0 0 (.slice none 0 0))
      have HG5 : Hid (W0.heap.size ≤ w3.heap.size) := tuck hS1.size
      replace V4 := tuck (V4.out.below (below1 w3 (.cells #[.int .i64 0, .int .i64 0, .slice none 0 0] 29)))
      replace V6 := tuck (V6.out.below (below1 w3 (.cells #[.int .i64 0, .int .i64 0, .slice none 0 0] 29)))
      replace V7 := tuck (V7.out.below (below1 w3 (.cells #[.int .i64 0, .int .i64 0, .slice none 0 0] 29)))
      have N5 : Hid (g4 < w3.heap.size ∧ g6 < w3.heap.size ∧ g7 < w3.heap.size) := tuck ⟨HL4.out, HL6.out, HL7.out⟩
      replace HL4 := tuck (Nat.lt_of_lt_of_le HL4.out (below1 w3 (.cells #[.int .i64 0, .int .i64 0, .slice none 0 0] 29)).size)
      replace HL6 := tuck (Nat.lt_of_lt_of_le HL6.out (below1 w3 (.cells #[.int .i64 0, .int .i64 0, .slice none 0 0] 29)).size)
      replace HL7 := tuck (Nat.lt_of_lt_of_le HL7.out (below1 w3 (.cells #[.int .i64 0, .int .i64 0, .slice none 0 0] 29)).size)
      have HL5 : Hid (w3.heap.size < (w3.alloc (.cells #[.int .i64 0, .int .i64 0, .slice none 0 0] 29)).heap.size) := tuck V5.out.facts.1
      try simp only [Act.put, List.setIfInBounds_toArray, List.set_cons_zero, List.set_cons_succ]
      generalize (w3.alloc (.cells #[.int .i64 0, .int .i64 0, .slice none 0 0] 29)) = w4 at *
      generalize w3.heap.size = g5 at *
      replace hS1 := hS1'
      clear hS1'
      have q46 : g4 ≠ g6 := Nat.ne_of_lt (N6.out)
      have q64 : g6 ≠ g4 := Ne.symm q46
      have q47 : g4 ≠ g7 := Nat.ne_of_lt (N7.out.1)
      have q74 : g7 ≠ g4 := Ne.symm q47
      have q67 : g6 ≠ g7 := Nat.ne_of_lt (N7.out.2)
      have q76 : g7 ≠ g6 := Ne.symm q67
      have q45 : g4 ≠ g5 := Nat.ne_of_lt (N5.out.1)
      have q54 : g5 ≠ g4 := Ne.symm q45
      have q65 : g6 ≠ g5 := Nat.ne_of_lt (N5.out.2.1)
      have q56 : g5 ≠ g6 := Ne.symm q65
      have q75 : g7 ≠ g5 := Nat.ne_of_lt (N5.out.2.2)
      have q57 : g5 ≠ g7 := Ne.symm q75
      obtain ⟨z4, f0, f1, f2, ff⟩ := V4.out.facts
      refine AnyTwo.step (i := 23) (o := ⟨none, _, _, _, _, _⟩) (by kernel_rfl) rfl (fun K hK => ?_)
      go_simp
      have hS1' := bSet3 hS1 HG4.out 0 1 2 (.int .i64 P.kind) (.int .i64 P.num) (.slice a0 P.kids.length n0)
      refine hK.out _ _ (ph_one (by kernel_rfl) hS1') ?_
      clear hK K f0 f1 f2 ff
      have V4' : Hid (VarAt g4 P.kind P.num (.slice a0 P.kids.length n0) (((w4.setCell ⟨g4, 0, none⟩ (.int .i64 P.kind)).setCell ⟨g4, 1, none⟩ (.int .i64 P.num)).setCell ⟨g4, 2, none⟩ (.slice a0 P.kids.length n0))) := tuck V4.out.set
      replace V5 := tuck (V5.out.far3 q54 0 1 2 (.int .i64 P.kind) (.int .i64 P.num) (.slice a0 P.kids.length n0))
      replace V6 := tuck (V6.out.far3 q64 0 1 2 (.int .i64 P.kind) (.int .i64 P.num) (.slice a0 P.kids.length n0))
      replace V7 := tuck (V7.out.far3 q74 0 1 2 (.int .i64 P.kind) (.int .i64 P.num) (.slice a0 P.kids.length n0))
      clear V4
      generalize (((w4.setCell ⟨g4, 0, none⟩ (.int .i64 P.kind)).setCell ⟨g4, 1, none⟩ (.int .i64 P.num)).setCell ⟨g4, 2, none⟩ (.slice a0 P.kids.length n0)) = v4 at *
      replace hS1 := hS1'
      clear hS1'
      obtain ⟨z5, f0, f1, f2, ff⟩ := V5.out.facts
      refine AnyTwo.step (i := 24) (o := ⟨none, _, _, _, _, _⟩) (by kernel_rfl) rfl (fun K hK => ?_)
      go_simp
      have hS1' := bSet3 hS1 HG5.out 0 1 2 (.int .i64 Z.kind) (.int .i64 Z.num) (.slice a1 Z.kids.length n1)
      refine hK.out _ _ (ph_one (by kernel_rfl) hS1') ?_
      clear hK K f0 f1 f2 ff
      replace V4' := tuck (V4'.out.far3 q45 0 1 2 (.int .i64 Z.kind) (.int .i64 Z.num) (.slice a1 Z.kids.length n1))
      have V5' : Hid (VarAt g5 Z.kind Z.num (.slice a1 Z.kids.length n1) (((v4.setCell ⟨g5, 0, none⟩ (.int .i64 Z.kind)).setCell ⟨g5, 1, none⟩ (.int .i64 Z.num)).setCell ⟨g5, 2, none⟩ (.slice a1 Z.kids.length n1))) := tuck V5.out.set
      replace V6 := tuck (V6.out.far3 q65 0 1 2 (.int .i64 Z.kind) (.int .i64 Z.num) (.slice a1 Z.kids.length n1))
      replace V7 := tuck (V7.out.far3 q75 0 1 2 (.int .i64 Z.kind) (.int .i64 Z.num) (.slice a1 Z.kids.length n1))
      clear V5
      generalize (((v4.setCell ⟨g5, 0, none⟩ (.int .i64 Z.kind)).setCell ⟨g5, 1, none⟩ (.int .i64 Z.num)).setCell ⟨g5, 2, none⟩ (.slice a1 Z.kids.length n1)) = v5 at *
      replace hS1 := hS1'
      clear hS1'
      obtain ⟨z6, f0, f1, f2, ff⟩ := V6.out.facts
      refine AnyTwo.step (i := 25) (o := ⟨none, _, _, _, _, _⟩) (by kernel_rfl) rfl (fun K hK => ?_)
      go_simp
      have hS1' := bSet3 hS1 HG6.out 0 1 2 (.int .i64 S.kind) (.int .i64 S.num) (.slice a2 S.kids.length n2)
      refine hK.out _ _ (ph_one (by kernel_rfl) hS1') ?_
      clear hK K f0 f1 f2 ff
      replace V4' := tuck (V4'.out.far3 q46 0 1 2 (.int .i64 S.kind) (.int .i64 S.num) (.slice a2 S.kids.length n2))
      replace V5' := tuck (V5'.out.far3 q56 0 1 2 (.int .i64 S.kind) (.int .i64 S.num) (.slice a2 S.kids.length n2))
      have V6' : Hid (VarAt g6 S.kind S.num (.slice a2 S.kids.length n2) (((v5.setCell ⟨g6, 0, none⟩ (.int .i64 S.kind)).setCell ⟨g6, 1, none⟩ (.int .i64 S.num)).setCell ⟨g6, 2, none⟩ (.slice a2 S.kids.length n2))) := tuck V6.out.set
      replace V7 := tuck (V7.out.far3 q76 0 1 2 (.int .i64 S.kind) (.int .i64 S.num) (.slice a2 S.kids.length n2))
      clear V6
      generalize (((v5.setCell ⟨g6, 0, none⟩ (.int .i64 S.kind)).setCell ⟨g6, 1, none⟩ (.int .i64 S.num)).setCell ⟨g6, 2, none⟩ (.slice a2 S.kids.length n2)) = v6 at *
      replace hS1 := hS1'
      clear hS1'
      obtain ⟨z7, f0, f1, f2, ff⟩ := V7.out.facts
      refine AnyTwo.step (i := 26) (o := ⟨none, _, _, _, _, _⟩) (by kernel_rfl) rfl (fun K hK => ?_)
      go_simp
      have hS1' := bSet3 hS1 HG7.out 0 1 2 (.int .i64 B.kind) (.int .i64 B.num) (.slice a4 B.kids.length n4)
      refine hK.out _ _ (ph_end (by kernel_rfl) hS1') ?_
      clear hK K f0 f1 f2 ff
      replace V4' := tuck (V4'.out.far3 q47 0 1 2 (.int .i64 B.kind) (.int .i64 B.num) (.slice a4 B.kids.length n4))
      replace V5' := tuck (V5'.out.far3 q57 0 1 2 (.int .i64 B.kind) (.int .i64 B.num) (.slice a4 B.kids.length n4))
      replace V6' := tuck (V6'.out.far3 q67 0 1 2 (.int .i64 B.kind) (.int .i64 B.num) (.slice a4 B.kids.length n4))
      have V7' : Hid (VarAt g7 B.kind B.num (.slice a4 B.kids.length n4) (((v6.setCell ⟨g7, 0, none⟩ (.int .i64 B.kind)).setCell ⟨g7, 1, none⟩ (.int .i64 B.num)).setCell ⟨g7, 2, none⟩ (.slice a4 B.kids.length n4))) := tuck V7.out.set
      clear V7
      generalize (((v6.setCell ⟨g7, 0, none⟩ (.int .i64 B.kind)).setCell ⟨g7, 1, none⟩ (.int .i64 B.num)).setCell ⟨g7, 2, none⟩ (.slice a4 B.kids.length n4)) = v7 at *
      replace hS1 := hS1'
      clear hS1'
      refine AnyTwo.done (by kernel_rfl) ?_ _
      go_wp2_with fail
      go_meet
      exact ⟨g4, g5, g6, g7, rfl, rfl, rfl, rfl, hS1, V4'.out, V5'.out, V6'.out, V7'.out⟩
   ·go_simp
    have hS1' := bAfter hS1 (below1 w1 (.cells #[.int .i64 0, .int .i64 0, .slice none 0 0] 29))
    refine hK.out _ _ (ph_one (by kernel_rfl) hS1') ?_
    clear hK K
    have V7 := tuck (VarAt.new w1 0 0 (.slice none 0 0))
    have HG7 : Hid (W0.heap.size ≤ w1.heap.size) := tuck hS1.size
    replace V4 := tuck (V4.out.below (below1 w1 (.cells #[.int .i64 0, .int .i64 0, .slice none 0 0] 29)))
    have N7 : Hid (g4 < w1.heap.size) := tuck HL4.out
    replace HL4 := tuck (Nat.lt_of_lt_of_le HL4.out (below1 w1 (.cells #[.int .i64 0, .int .i64 0, .slice none 0 0] 29)).size)
    have HL7 : Hid (w1.heap.size < (w1.alloc (.cells #[.int .i64 0, .int .i64 0, .slice none 0 0] 29)).heap.size) := tuck V7.out.facts.1
    try simp only [Act.put, List.setIfInBounds_toArray, List.set_cons_zero, List.set_cons_succ]
    generalize (w1.alloc (.cells #[.int .i64 0, .int .i64 0, .slice none 0 0] 29)) = w2 at *
    generalize w1.heap.size = g7 at *
    replace hS1 := hS1'
    clear hS1'
    refine AnyTwo.fork (i := 20) (j := 21) (o := ⟨some 5, _, _, _, _, _⟩) (o' := ⟨some 6, _, _, _, _, _⟩) (by kernel_rfl) rfl rfl (fun K hK => ?_) (fun K hK => ?_)
    ·go_simp
     have hS1' := bAfter hS1 (below1 w2 (.cells #[.int .i64 0, .int .i64 0, .slice none 0 0] 29))
     refine hK.out _ _ (ph_one (by kernel_rfl) hS1') ?_
     clear hK K
     have V5 := tuck (VarAt.new w2 0 0 (.slice none 0 0))
     have HG5 : Hid (W0.heap.size ≤ w2.heap.size) := tuck hS1.size
     replace V4 := tuck (V4.out.below (below1 w2 (.cells #[.int .i64 0, .int .i64 0, .slice none 0 0] 29)))
     replace V7 := tuck (V7.out.below (below1 w2 (.cells #[.int .i64 0, .int .i64 0, .slice none 0 0] 29)))
     have N5 : Hid (g4 < w2.heap.size ∧ g7 < w2.heap.size) := tuck ⟨HL4.out, HL7.out⟩
     replace HL4 := tuck (Nat.lt_of_lt_of_le HL4.out (below1 w2 (.cells #[.int .i64 0, .int .i64 0, .slice none 0 0] 29)).size)
     replace HL7 := tuck (Nat.lt_of_lt_of_le HL7.out (below1 w2 (.cells #[.int .i64 0, .int .i64 0, .slice none 0 0] 29)).size)
     have HL5 : Hid (w2.heap.size < (w2.alloc (.cells #[.int .i64 0, .int .i64 0, .slice none 0 0] 29)).heap.size) := tuck V5.out.facts.1
     try simp only [Act.put, List.setIfInBounds_toArray, List.set_cons_zero, List.set_cons_succ]
     generalize (w2.alloc (.cells #[.int .i64 0, .int .i64 0, .slice none 0 0] 29)) = w3 at *
     generalize w2.heap.size = g5 at *
     replace hS1 := hS1'
     clear hS1'
     refine AnyTwo.step (i := 21) (o := ⟨some 6, _, _, _, _, _⟩) (by kernel_rfl) rfl (fun K hK => ?_)
     ·go_simp
      have hS1' := bAfter hS1 (below1 w3 (.cells #[.int .i64 0, .int .i64 0, .slice none 0 0] 29))
      refine hK.out _ _ (ph_one (by kernel_rfl) hS1') ?_
      clear hK K
      have V6 := tuck (VarAt.new w3 0 0 (.slice none 0 0))
      have HG6 : Hid (W0.heap.size ≤ w3.heap.size) := tuck hS1.size
      replace V4 := tuck (V4.out.below (below1 w3 (.cells #[.int .i64 0, .int .i64 0, .slice none 0 0] 29)))
      replace V7 := tuck (V7.out.below (below1 w3 (.cells #[.int .i64 0, .int .i64 0, .slice none 0 0] 29)))
      replace V5 := tuck (V5.out.below (below1 w3 (.cells #[.int .i64 0, .int .i64 0, .slice none 0 0] 29)))
      have N6 : Hid (g4 < w3.heap.size ∧ g7 < w3.heap.size ∧ g5 < w3.heap.size) := tuck ⟨HL4.out, HL7.out, HL5.out⟩
      replace HL4 := tuck (Nat.lt_of_lt_of_le HL4.out (below1 w3 (.cells #[.int .i64 0, .int .i64 0, .slice none 0 0] 29)).size)
      replace HL7 := tuck (Nat.lt_of_lt_of_le HL7.out (below1 w3 (.cells #[.int .i64 0, .int .i64 0, .slice none 0 0] 29)).size)
      replace HL5 := tuck (Nat.lt_of_lt_of_le HL5.out (below1 w3 (.cells #[.int .i64 0, .int .i64 0, .slice none 0 0] 29)).size)
      have HL6 : Hid (w3.heap.size < (w3.alloc (.cells #[.int .i64 0, .int .i64 0, .slice none 0 0] 29)).heap.size) := tuck V6.out.facts.1
      try simp only [Act.put, List.setIfInBounds_toArray, List.set_cons_zero, List.set_cons_succ]
      generalize (w3.alloc (.cells #[.int .i64 0, .int .i64 0, .slice none 0 0] 29)) = w4 at *
      generalize w3.heap.size = g6 at *
      replace hS1 := hS1'
      clear hS1'
      have q47 : g4 ≠ g7 := Nat.ne_of_lt (N7.out)
      have q74 : g7 ≠ g4 := Ne.symm q47
      have q45 : g4 ≠ g5 := Nat.ne_of_lt (N5.out.1)
      have q54 : g5 ≠ g4 := Ne.symm q45
      have q75 : g7 ≠ g5 := Nat.ne_of_lt (N5.out.2)
      have q57 : g5 ≠ g7 := Ne.symm q75
      have q46 : g4 ≠ g6 := Nat.ne_of_lt (N6.out.1)
      have q64 : g6 ≠ g4 := Ne.symm q46
      have q76 : g7 ≠ g6 := Nat.ne_of_lt (N6.out.2.1)
      have q67 : g6 ≠ g7 := Ne.symm q76
      have q56 : g5 ≠ g6 := Nat.ne_of_lt (N6.out.2.2)
      have q65 : g6 ≠ g5 := Ne.symm q56
      obtain ⟨z4, f0, f1, f2, ff⟩ := V4.out.facts
      refine AnyTwo.step (i := 23) (o := ⟨none, _, _, _, _, _⟩) (by kernel_rfl) rfl (fun K hK => ?_)
      go_simp
      have hS1' := bSet3 hS1 HG4.out 0 1 2 (.int .i64 P.kind) (.int .i64 P.num) (.slice a0 P.kids.length n0)
      refine hK.out _ _ (ph_one (by kernel_rfl) hS1') ?_
      clear hK K f0 f1 f2 ff
      have V4' : Hid (VarAt g4 P.kind P.num (.slice a0 P.kids.length n0) (((w4.setCell ⟨g4, 0, none⟩ (.int .i64 P.kind)).setCell ⟨g4, 1, none⟩ (.int .i64 P.num)).setCell ⟨g4, 2, none⟩ (.slice a0 P.kids.length n0))) := tuck V4.out.set
      replace V5 := tuck (V5.out.far3 q54 0 1 2 (.int .i64 P.kind) (.int .i64 P.num) (.slice a0 P.kids.length n0))
      replace V6 := tuck (V6.out.far3 q64 0 1 2 (.int .i64 P.kind) (.int .i64 P.num) (.slice a0 P.kids.length n0))
      replace V7 := tuck (V7.out.far3 q74 0 1 2 (.int .i64 P.kind) (.int .i64 P.num) (.slice a0 P.kids.length n0))
      clear V4
      generalize (((w4.setCell ⟨g4, 0, none⟩ (.int .i64 P.kind)).setCell ⟨g4, 1, none⟩ (.int .i64 P.num)).setCell ⟨g4, 2, none⟩ (.slice a0 P.kids.length n0)) = v4 at *
      replace hS1 := hS1'
      clear hS1'
      obtain ⟨z5, f0, f1, f2, ff⟩ := V5.out.facts
      refine AnyTwo.step (i := 24) (o := ⟨none, _, _, _, _, _⟩) (by kernel_rfl) rfl (fun K hK => ?_)
      go_simp
      have hS1' := bSet3 hS1 HG5.out 0 1 2 (.int .i64 Z.kind) (.int .i64 Z.num) (.slice a1 Z.kids.length n1)
      refine hK.out _ _ (ph_one (by kernel_rfl) hS1') ?_
      clear hK K f0 f1 f2 ff
      replace V4' := tuck (V4'.out.far3 q45 0 1 2 (.int .i64 Z.kind) (.int .i64 Z.num) (.slice a1 Z.kids.length n1))
      have V5' : Hid (VarAt g5 Z.kind Z.num (.slice a1 Z.kids.length n1) (((v4.setCell ⟨g5, 0, none⟩ (.int .i64 Z.kind)).setCell ⟨g5, 1, none⟩ (.int .i64 Z.num)).setCell ⟨g5, 2, none⟩ (.slice a1 Z.kids.length n1))) := tuck V5.out.set
      replace V6 := tuck (V6.out.far3 q65 0 1 2 (.int .i64 Z.kind) (.int .i64 Z.num) (.slice a1 Z.kids.length n1))
      replace V7 := tuck (V7.out.far3 q75 0 1 2 (.int .i64 Z.kind) (.int .i64 Z.num) (.slice a1 Z.kids.length n1))
      clear V5
      generalize (((v4.setCell ⟨g5, 0, none⟩ (.int .i64 Z.kind)).setCell ⟨g5, 1, none⟩ (.int .i64 Z.num)).setCell ⟨g5, 2, none⟩ (.slice a1 Z.kids.length n1)) = v5 at *
      replace hS1 := hS1'
      clear hS1'
      obtain ⟨z6, f0, f1, f2, ff⟩ := V6.out.facts
      refine AnyTwo.step (i := 25) (o := ⟨none, _, _, _, _, _⟩) (by kernel_rfl) rfl (fun K hK => ?_)
      go_simp
      have hS1' := bSet3 hS1 HG6.out 0 1 2 (.int .i64 S.kind) (.int .i64 S.num) (.slice a2 S.kids.length n2)
      refine hK.out _ _ (ph_one (by kernel_rfl) hS1') ?_
      clear hK K f0 f1 f2 ff
      replace V4' := tuck (V4'.out.far3 q46 0 1 2 (.int .i64 S.kind) (.int .i64 S.num) (.slice a2 S.kids.length n2))
      replace V5' := tuck (V5'.out.far3 q56 0 1 2 (.int .i64 S.kind) (.int .i64 S.num) (.slice a2 S.kids.length n2))
      have V6' : Hid (VarAt g6 S.kind S.num (.slice a2 S.kids.length n2) (((v5.setCell ⟨g6, 0, none⟩ (.int .i64 S.kind)).setCell ⟨g6, 1, none⟩ (.int .i64 S.num)).setCell ⟨g6, 2, none⟩ (.slice a2 S.kids.length n2))) := tuck V6.out.set
      replace V7 := tuck (V7.out.far3 q76 0 1 2 (.int .i64 S.kind) (.int .i64 S.num) (.slice a2 S.kids.length n2))
      clear V6
      generalize (((v5.setCell ⟨g6, 0, none⟩ (.int .i64 S.kind)).setCell ⟨g6, 1, none⟩ (.int .i64 S.num)).setCell ⟨g6, 2, none⟩ (.slice a2 S.kids.length n2)) = v6 at *
      replace hS1 := hS1'
      clear hS1'
      obtain ⟨z7, f0, f1, f2, ff⟩ := V7.out.facts
      refine AnyTwo.step (i := 26) (o := ⟨none, _, _, _, _, _⟩) (by kernel_rfl) rfl (fun K hK => ?_)
      go_simp
      have hS1' := bSet3 hS1 HG7.out 0 1 2 (.int .i64 B.kind) (.int .i64 B.num) (.slice a4 B.kids.length n4)
      refine hK.out _ _ (ph_end (by kernel_rfl) hS1') ?_
      clear hK K f0 f1 f2 ff
      replace V4' := tuck (V4'.out.far3 q47 0 1 2 (.int .i64 B.kind) (.int .i64 B.num) (.slice a4 B.kids.length n4))
      replace V5' := tuck (V5'.out.far3 q57 0 1 2 (.int .i64 B.kind) (.int .i64 B.num) (.slice a4 B.kids.length n4))
      replace V6' := tuck (V6'.out.far3 q67 0 1 2 (.int .i64 B.kind) (.int .i64 B.num) (.slice a4 B.kids.length n4))
      have V7' : Hid (VarAt g7 B.kind B.num (.slice a4 B.kids.length n4) (((v6.setCell ⟨g7, 0, none⟩ (.int .i64 B.kind)).setCell ⟨g7, 1, none⟩ (.int .i64 B.num)).setCell ⟨g7, 2, none⟩ (.slice a4 B.kids.length n4))) := tuck V7.out.set
      clear V7
      generalize (((v6.setCell ⟨g7, 0, none⟩ (.int .i64 B.kind)).setCell ⟨g7, 1, none⟩ (.int .i64 B.num)).setCell ⟨g7, 2, none⟩ (.slice a4 B.kids.length n4)) = v7 at *
      replace hS1 := hS1'
      clear hS1'
      refine AnyTwo.done (by kernel_rfl) ?_ _
      go_wp2_with fail
      go_meet
      exact ⟨g4, g5, g6, g7, rfl, rfl, rfl, rfl, hS1, V4'.out, V5'.out, V6'.out, V7'.out⟩
    ·go_simp
     have hS1' := bAfter hS1 (below1 w2 (.cells #[.int .i64 0, .int .i64 0, .slice none 0 0] 29))
     refine hK.out _ _ (ph_one (by kernel_rfl) hS1') ?_
     clear hK K
     have V6 := tuck (VarAt.new w2 0 0 (.slice none 0 0))
     have HG6 : Hid (W0.heap.size ≤ w2.heap.size) := tuck hS1.size
     replace V4 := tuck (V4.out.below (below1 w2 (.cells #[.int .i64 0, .int .i64 0, .slice none 0 0] 29)))
     replace V7 := tuck (V7.out.below (below1 w2 (.cells #[.int .i64 0, .int .i64 0, .slice none 0 0] 29)))
     have N6 : Hid (g4 < w2.heap.size ∧ g7 < w2.heap.size) := tuck ⟨HL4.out, HL7.out⟩
     replace HL4 := tuck (Nat.lt_of_lt_of_le HL4.out (below1 w2 (.cells #[.int .i64 0, .int .i64 0, .slice none 0 0] 29)).size)
     replace HL7 := tuck (Nat.lt_of_lt_of_le HL7.out (below1 w2 (.cells #[.int .i64 0, .int .i64 0, .slice none 0 0] 29)).size)
     have HL6 : Hid (w2.heap.size < (w2.alloc (.cells #[.int .i64 0, .int .i64 0, .slice none 0 0] 29)).heap.size) := tuck V6.out.facts.1
     try simp only [Act.put, List.setIfInBounds_toArray, List.set_cons_zero, List.set_cons_succ]
     generalize (w2.alloc (.cells #[.int .i64 0, .int .i64 0, .slice none 0 0] 29)) = w3 at *
     generalize w2.heap.size = g6 at *
     replace hS1 := hS1'
     clear hS1'
     refine AnyTwo.step (i := 20) (o := ⟨some 5, _, _, _, _, _⟩) (by kernel_rfl) rfl (fun K hK => ?_)
     ·go_simp
      have hS1' := bAfter hS1 (below1 w3 (.cells #[.int .i64 0, .int .i64 0, .slice none 0 0] 29))
      refine hK.out _ _ (ph_one (by kernel_rfl) hS1') ?_
      clear hK K
      have V5 := tuck (VarAt.new w3 0 0 (.slice none 0 0))
      have HG5 : Hid (W0.heap.size ≤ w3.heap.size) := tuck hS1.size
      replace V4 := tuck (V4.out.below (below1 w3 (.cells #[.int .i64 0, .int .i64 0, .slice none 0 0] 29)))
      replace V7 := tuck (V7.out.below (below1 w3 (.cells #[.int .i64 0, .int .i64 0, .slice none 0 0] 29)))
      replace V6 := tuck (V6.out.below (below1 w3 (.cells #[.int .i64 0, .int .i64 0, .slice none 0 0] 29)))
      have N5 : Hid (g4 < w3.heap.size ∧ g7 < w3.heap.size ∧ g6 < w3.heap.size) := tuck ⟨HL4.out, HL7.out, HL6.out⟩
      replace HL4 := tuck (Nat.lt_of_lt_of_le HL4.out (below1 w3 (.cells #[.int .i64 0, .int .i64 0, .slice none 0 0] 29)).size)
      replace HL7 := tuck (Nat.lt_of_lt_of_le HL7.out (below1 w3 (.cells #[.int .i64 0, .int .i64 0, .slice none 0 0] 29)).size)
      replace HL6 := tuck (Nat.lt_of_lt_of_le HL6.out (below1 w3 (.cells #[.int .i64 0, .int .i64 0, .slice none 0 0] 29)).size)
      have HL5 : Hid (w3.heap.size < (w3.alloc (.cells #[.int .i64 0, .int .i64 0, .slice none 0 0] 29)).heap.size) := tuck V5.out.facts.1
      try simp only [Act.put, List.setIfInBounds_toArray, List.set_cons_zero, List.set_cons_succ]
      generalize (w3.alloc (.cells #[.int .i64 0, .int .i64 0, .slice none 0 0] 29)) = w4 at *
      generalize w3.heap.size = g5 at *
      replace hS1 := hS1'
      clear hS1'
      have q47 : g4 ≠ g7 := Nat.ne_of_lt (N7.out)
      have q74 : g7 ≠ g4 := Ne.symm q47
      have q46 : g4 ≠ g6 := Nat.ne_of_lt (N6.out.1)
      have q64 : g6 ≠ g4 := Ne.symm q46
      have q76 : g7 ≠ g6 := Nat.ne_of_lt (N6.out.2)
      have q67 : g6 ≠ g7 := Ne.symm q76
      have q45 : g4 ≠ g5 := Nat.ne_of_lt (N5.out.1)
      have q54 : g5 ≠ g4 := Ne.symm q45
      have q75 : g7 ≠ g5 := Nat.ne_of_lt (N5.out.2.1)
      have q57 : g5 ≠ g7 := Ne.symm q75
      have q65 : g6 ≠ g5 := Nat.ne_of_lt (N5.out.2.2)
      have q56 : g5 ≠ g6 := Ne.symm q65
      obtain ⟨z4, f0, f1, f2, ff⟩ := V4.out.facts
      refine AnyTwo.step (i := 23) (o := ⟨none, _, _, _, _, _⟩) (by kernel_rfl) rfl (fun K hK => ?_)
      go_simp
      have hS1' := bSet3 hS1 HG4.out 0 1 2 (.int .i64 P.kind) (.int .i64 P.num) (.slice a0 P.kids.length n0)
      refine hK.out _ _ (ph_one (by kernel_rfl) hS1') ?_
      clear hK K f0 f1 f2 ff
      have V4' : Hid (VarAt g4 P.kind P.num (.slice a0 P.kids.length n0) (((w4.setCell ⟨g4, 0, none⟩ (.int .i64 P.kind)).setCell ⟨g4, 1, none⟩ (.int .i64 P.num)).setCell ⟨g4, 2, none⟩ (.slice a0 P.kids.length n0))) := tuck V4.out.set
      replace V5 := tuck (V5.out.far3 q54 0 1 2 (.int .i64 P.kind) (.int .i64 P.num) (.slice a0 P.kids.length n0))
      replace V6 := tuck (V6.out.far3 q64 0 1 2 (.int .i64 P.kind) (.int .i64 P.num) (.slice a0 P.kids.length n0))
      replace V7 := tuck (V7.out.far3 q74 0 1 2 (.int .i64 P.kind) (.int .i64 P.num) (.slice a0 P.kids.length n0))
      clear V4
      generalize (((w4.setCell ⟨g4, 0, none⟩ (.int .i64 P.kind)).setCell ⟨g4, 1, none⟩ (.int .i64 P.num)).setCell ⟨g4, 2, none⟩ (.slice a0 P.kids.length n0)) = v4 at *
      replace hS1 := hS1'
      clear hS1'
      obtain ⟨z5, f0, f1, f2, ff⟩ := V5.out.facts
      refine AnyTwo.step (i := 24) (o := ⟨none, _, _, _, _, _⟩) (by kernel_rfl) rfl (fun K hK => ?_)
      go_simp
      have hS1' := bSet3 hS1 HG5.out 0 1 2 (.int .i64 Z.kind) (.int .i64 Z.num) (.slice a1 Z.kids.length n1)
      refine hK.out _ _ (ph_one (by kernel_rfl) hS1') ?_
      clear hK K f0 f1 f2 ff
      replace V4' := tuck (V4'.out.far3 q45 0 1 2 (.int .i64 Z.kind) (.int .i64 Z.num) (.slice a1 Z.kids.length n1))
      have V5' : Hid (VarAt g5 Z.kind Z.num (.slice a1 Z.kids.length n1) (((v4.setCell ⟨g5, 0, none⟩ (.int .i64 Z.kind)).setCell ⟨g5, 1, none⟩ (.int .i64 Z.num)).setCell ⟨g5, 2, none⟩ (.slice a1 Z.kids.length n1))) := tuck V5.out.set
      replace V6 := tuck (V6.out.far3 q65 0 1 2 (.int .i64 Z.kind) (.int .i64 Z.num) (.slice a1 Z.kids.length n1))
      replace V7 := tuck (V7.out.far3 q75 0 1 2 (.int .i64 Z.kind) (.int .i64 Z.num) (.slice a1 Z.kids.length n1))
      clear V5
      generalize (((v4.setCell ⟨g5, 0, none⟩ (.int .i64 Z.kind)).setCell ⟨g5, 1, none⟩ (.int .i64 Z.num)).setCell ⟨g5, 2, none⟩ (.slice a1 Z.kids.length n1)) = v5 at *
      replace hS1 := hS1'
      clear hS1'
      obtain ⟨z6, f0, f1, f2, ff⟩ := V6.out.facts
      refine AnyTwo.step (i := 25) (o := ⟨none, _, _, _, _, _⟩) (by kernel_rfl) rfl (fun K hK => ?_)
      go_simp
      have hS1' := bSet3 hS1 HG6.out 0 1 2 (.int .i64 S.kind) (.int .i64 S.num) (.slice a2 S.kids.length n2)
      refine hK.out _ _ (ph_one (by kernel_rfl) hS1') ?_
      clear hK K f0 f1 f2 ff
      replace V4' := tuck (V4'.out.far3 q46 0 1 2 (.int .i64 S.kind) (.int .i64 S.num) (.slice a2 S.kids.length n2))
      replace V5' := tuck (V5'.out.far3 q56 0 1 2 (.int .i64 S.kind) (.int .i64 S.num) (.slice a2 S.kids.length n2))
      have V6' : Hid (VarAt g6 S.kind S.num (.slice a2 S.kids.length n2) (((v5.setCell ⟨g6, 0, none⟩ (.int .i64 S.kind)).setCell ⟨g6, 1, none⟩ (.int .i64 S.num)).setCell ⟨g6, 2, none⟩ (.slice a2 S.kids.length n2))) := tuck V6.out.set
      replace V7 := tuck (V7.out.far3 q76 0 1 2 (.int .i64 S.kind) (.int .i64 S.num) (.slice a2 S.kids.length n2))
      clear V6
      generalize (((v5.setCell ⟨g6, 0, none⟩ (.int .i64 S.kind)).setCell ⟨g6, 1, none⟩ (.int .i64 S.num)).setCell ⟨g6, 2, none⟩ (.slice a2 S.kids.length n2)) = v6 at *
      replace hS1 := hS1'
      clear hS1'
      obtain ⟨z7, f0, f1, f2, ff⟩ := V7.out.facts
      refine AnyTwo.step (i := 26) (o := ⟨none, _, _, _, _, _⟩) (by kernel_rfl) rfl (fun K hK => ?_)
      go_simp
      have hS1' := bSet3 hS1 HG7.out 0 1 2 (.int .i64 B.kind) (.int .i64 B.num) (.slice a4 B.kids.length n4)
      refine hK.out _ _ (ph_end (by kernel_rfl) hS1') ?_
      clear hK K f0 f1 f2 ff
      replace V4' := tuck (V4'.out.far3 q47 0 1 2 (.int .i64 B.kind) (.int .i64 B.num) (.slice a4 B.kids.length n4))
      replace V5' := tuck (V5'.out.far3 q57 0 1 2 (.int .i64 B.kind) (.int .i64 B.num) (.slice a4 B.kids.length n4))
      replace V6' := tuck (V6'.out.far3 q67 0 1 2 (.int .i64 B.kind) (.int .i64 B.num) (.slice a4 B.kids.length n4))
      have V7' : Hid (VarAt g7 B.kind B.num (.slice a4 B.kids.length n4) (((v6.setCell ⟨g7, 0, none⟩ (.int .i64 B.kind)).setCell ⟨g7, 1, none⟩ (.int .i64 B.num)).setCell ⟨g7, 2, none⟩ (.slice a4 B.kids.length n4))) := tuck V7.out.set
      clear V7
      generalize (((v6.setCell ⟨g7, 0, none⟩ (.int .i64 B.kind)).setCell ⟨g7, 1, none⟩ (.int .i64 B.num)).setCell ⟨g7, 2, none⟩ (.slice a4 B.kids.length n4)) = v7 at *
      replace hS1 := hS1'
      clear hS1'
      refine AnyTwo.done (by kernel_rfl) ?_ _
      go_wp2_with fail
      go_meet
      exact ⟨g4, g5, g6, g7, rfl, rfl, rfl, rfl, hS1, V4'.out, V5'.out, V6'.out, V7'.out⟩
  ·go_simp
   have hS1' := bAfter hS1 (below1 w0 (.cells #[.int .i64 0, .int .i64 0, .slice none 0 0] 29))
   refine hK.out _ _ (ph_one (by kernel_rfl) hS1') ?_
   clear hK K
   have V5 := tuck (VarAt.new w0 0 0 (.slice none 0 0))
   have HG5 : Hid (W0.heap.size ≤ w0.heap.size) := tuck hS1.size
   have HL5 : Hid (w0.heap.size < (w0.alloc (.cells #[.int .i64 0, .int .i64 0, .slice none 0 0] 29)).heap.size) := tuck V5.out.facts.1
   try simp only [Act.put, List.setIfInBounds_toArray, List.set_cons_zero, List.set_cons_succ]
   generalize (w0.alloc (.cells #[.int .i64 0, .int .i64 0, .slice none 0 0] 29)) = w1 at *
   generalize w0.heap.size = g5 at *
   replace hS1 := hS1'
   clear hS1'
   refine AnyTwo.fork3 (i0 := 19) (o0 := ⟨some 4, _, _, _, _, _⟩) (i1 := 21) (o1 := ⟨some 6, _, _, _, _, _⟩) (i2 := 22) (o2 := ⟨some 7, _, _, _, _, _⟩) (by kernel_rfl) rfl rfl rfl (fun K hK => ?_) (fun K hK => ?_) (fun K hK => ?_)
   ·go_simp
    have hS1' := bAfter hS1 (below1 w1 (.cells #[.int .i64 0, .int .i64 0, .slice none 0 0] 29))
    refine hK.out _ _ (ph_one (by kernel_rfl) hS1') ?_
    clear hK K
    have V4 := tuck (VarAt.new w1 0 0 (.slice none 0 0))
    have HG4 : Hid (W0.heap.size ≤ w1.heap.size) := tuck hS1.size
    replace V5 := tuck (V5.out.below (below1 w1 (.cells #[.int .i64 0, .int .i64 0, .slice none 0 0] 29)))
    have N4 : Hid (g5 < w1.heap.size) := tuck HL5.out
    replace HL5 := tuck (Nat.lt_of_lt_of_le HL5.out (below1 w1 (.cells #[.int .i64 0, .int .i64 0, .slice none 0 0] 29)).size)
    have HL4 : Hid (w1.heap.size < (w1.alloc (.cells #[.int .i64 0, .int .i64 0, .slice none 0 0] 29)).heap.size) := tuck V4.out.facts.1
    try simp only [Act.put, List.setIfInBounds_toArray, List.set_cons_zero, List.set_cons_succ]
    generalize (w1.alloc (.cells #[.int .i64 0, .int .i64 0, .slice none 0 0] 29)) = w2 at *
    generalize w1.heap.size = g4 at *
    replace hS1 := hS1'
    clear hS1'
    refine AnyTwo.fork (i := 21) (j := 22) (o := ⟨some 6, _, _, _, _, _⟩) (o' := ⟨some 7, _, _, _, _, _⟩) (by kernel_rfl) rfl rfl (fun K hK => ?_) (fun K hK => ?_)
    ·go_simp
     have hS1' := bAfter hS1 (below1 w2 (.cells #[.int .i64 0, .int .i64 0, .slice none 0 0] 29))
     refine hK.out _ _ (ph_one (by kernel_rfl) hS1') ?_
     clear hK K
     have V6 := tuck (VarAt.new w2 0 0 (.slice none 0 0))
     have HG6 : Hid (W0.heap.size ≤ w2.heap.size) := tuck hS1.size
     replace V5 := tuck (V5.out.below (below1 w2 (.cells #[.int .i64 0, .int .i64 0, .slice none 0 0] 29)))
     replace V4 := tuck (V4.out.below (below1 w2 (.cells #[.int .i64 0, .int .i64 0, .slice none 0 0] 29)))
     have N6 : Hid (g5 < w2.heap.size ∧ g4 < w2.heap.size) := tuck ⟨HL5.out, HL4.out⟩
     replace HL5 := tuck (Nat.lt_of_lt_of_le HL5.out (below1 w2 (.cells #[.int .i64 0, .int .i64 0, .slice none 0 0] 29)).size)
     replace HL4 := tuck (Nat.lt_of_lt_of_le HL4.out (below1 w2 (.cells #[.int .i64 0, .int .i64 0, .slice none 0 0] 29)).size)
     have HL6 : Hid (w2.heap.size < (w2.alloc (.cells #[.int .i64 0, .int .i64 0, .slice none 0 0] 29)).heap.size) := tuck V6.out.facts.1
     try simp only [Act.put, List.setIfInBounds_toArray, List.set_cons_zero, List.set_cons_succ]
     generalize (w2.alloc (.cells #[.int .i64 0, .int .i64 0, .slice none 0 0] 29)) = w3 at *
     generalize w2.heap.size = g6 at *
     replace hS1 := hS1'
     clear hS1'
     refine AnyTwo.step (i := 22) (o := ⟨some 7, _, _, _, _, _⟩) (by kernel_rfl) rfl (fun K hK => ?_)
     ·go_simp
      have hS1' := bAfter hS1 (below1 w3 (.cells #[.int .i64 0, .int .i64 0, .slice none 0 0] 29))
      refine hK.out _ _ (ph_one (by kernel_rfl) hS1') ?_
      clear hK K
      have V7 := tuck (VarAt.new w3 0 0 (.slice none 0 0))
      have HG7 : Hid (W0.heap.size ≤ w3.heap.size) := tuck hS1.size
      replace V5 := tuck (V5.out.below (below1 w3 (.cells #[.int .i64 0, .int .i64 0, .slice none 0 0] 29)))
      replace V4 := tuck (V4.out.below (below1 w3 (.cells #[.int .i64 0, .int .i64 0, .slice none 0 0] 29)))
      replace V6 := tuck (V6.out.below (below1 w3 (.cells #[.int .i64 0, .int .i64 0, .slice none 0 0] 29)))
      have N7 : Hid (g5 < w3.heap.size ∧ g4 < w3.heap.size ∧ g6 < w3.heap.size) := tuck ⟨HL5.out, HL4.out, HL6.out⟩
      replace HL5 := tuck (Nat.lt_of_lt_of_le HL5.out (below1 w3 (.cells #[.int .i64 0, .int .i64 0, .slice none 0 0] 29)).size)
      replace HL4 := tuck (Nat.lt_of_lt_of_le HL4.out (below1 w3 (.cells #[.int .i64 0, .int .i64 0, .slice none 0 0] 29)).size)
      replace HL6 := tuck (Nat.lt_of_lt_of_le HL6.out (below1 w3 (.cells #[.int .i64 0, .int .i64 0, .slice none 0 0] 29)).size)
      have HL7 : Hid (w3.heap.size < (w3.alloc (.cells #[.int .i64 0, .int .i64 0, .slice none 0 0] 29)).heap.size) := tuck V7.out.facts.1
      try simp only [Act.put, List.setIfInBounds_toArray, List.set_cons_zero, List.set_cons_succ]
      generalize (w3.alloc (.cells #[.int .i64 0, .int .i64 0, .slice none 0 0] 29)) = w4 at *
      generalize w3.heap.size = g7 at *
      replace hS1 := hS1'
      clear hS1'
      have q54 : g5 ≠ g4 := Nat.ne_of_lt (N4.out)
      have q45 : g4 ≠ g5 := Ne.symm q54
      have q56 : g5 ≠ g6 := Nat.ne_of_lt (N6.out.1)
      have q65 : g6 ≠ g5 := Ne.symm q56
      have q46 : g4 ≠ g6 := Nat.ne_of_lt (N6.out.2)
      have q64 : g6 ≠ g4 := Ne.symm q46
      have q57 : g5 ≠ g7 := Nat.ne_of_lt (N7.out.1)
      have q75 : g7 ≠ g5 := Ne.symm q57
      have q47 : g4 ≠ g7 := Nat.ne_of_lt (N7.out.2.1)
      have q74 : g7 ≠ g4 := Ne.symm q47
      have q67 : g6 ≠ g7 := Nat.ne_of_lt (N7.out.2.2)
      have q76 : g7 ≠ g6 := Ne.symm q67
      obtain ⟨z4, f0, f1, f2, ff⟩ := V4.out.facts
      refine AnyTwo.step (i := 23) (o := ⟨none, _, _, _, _, _⟩) (by kernel_rfl) rfl (fun K hK => ?_)
      go_simp
      have hS1' := bSet3 hS1 HG4.out 0 1 2 (.int .i64 P.kind) (.int .i64 P.num) (.slice a0 P.kids.length n0)
      refine hK.out _ _ (ph_one (by kernel_rfl) hS1') ?_
      clear hK K f0 f1 f2 ff
      have V4' : Hid (VarAt g4 P.kind P.num (.slice a0 P.kids.length n0) (((w4.setCell ⟨g4, 0, none⟩ (.int .i64 P.kind)).setCell ⟨g4, 1, none⟩ (.int .i64 P.num)).setCell ⟨g4, 2, none⟩ (.slice a0 P.kids.length n0))) := tuck V4.out.set
      replace V5 := tuck (V5.out.far3 q54 0 1 2 (.int .i64 P.kind) (.int .i64 P.num) (.slice a0 P.kids.length n0))
      replace V6 := tuck (V6.out.far3 q64 0 1 2 (.int .i64 P.kind) (.int .i64 P.num) (.slice a0 P.kids.length n0))
      replace V7 := tuck (V7.out.far3 q74 0 1 2 (.int .i64 P.kind) (.int .i64 P.num) (.slice a0 P.kids.length n0))
      clear V4
      generalize (((w4.setCell ⟨g4, 0, none⟩ (.int .i64 P.kind)).setCell ⟨g4, 1, none⟩ (.int .i64 P.num)).setCell ⟨g4, 2, none⟩ (.slice a0 P.kids.length n0)) = v4 at *
      replace hS1 := hS1'
      clear hS1'
      obtain ⟨z5, f0, f1, f2, ff⟩ := V5.out.facts
      refine AnyTwo.step (i := 24) (o := ⟨none, _, _, _, _, _⟩) (by kernel_rfl) rfl (fun K hK => ?_)
      go_simp
      have hS1' := bSet3 hS1 HG5.out 0 1 2 (.int .i64 Z.kind) (.int .i64 Z.num) (.slice a1 Z.kids.length n1)
      refine hK.out _ _ (ph_one (by kernel_rfl) hS1') ?_
      clear hK K f0 f1 f2 ff
      replace V4' := tuck (V4'.out.far3 q45 0 1 2 (.int .i64 Z.kind) (.int .i64 Z.num) (.slice a1 Z.kids.length n1))
      have V5' : Hid (VarAt g5 Z.kind Z.num (.slice a1 Z.kids.length n1) (((v4.setCell ⟨g5, 0, none⟩ (.int .i64 Z.kind)).setCell ⟨g5, 1, none⟩ (.int .i64 Z.num)).setCell ⟨g5, 2, none⟩ (.slice a1 Z.kids.length n1))) := tuck V5.out.set
      replace V6 := tuck (V6.out.far3 q65 0 1 2 (.int .i64 Z.kind) (.int .i64 Z.num) (.slice a1 Z.kids.length n1))
      replace V7 := tuck (V7.out.far3 q75 0 1 2 (.int .i64 Z.kind) (.int .i64 Z.num) (.slice a1 Z.kids.length n1))
      clear V5
      generalize (((v4.setCell ⟨g5, 0, none⟩ (.int .i64 Z.kind)).setCell ⟨g5, 1, none⟩ (.int .i64 Z.num)).setCell ⟨g5, 2, none⟩ (.slice a1 Z.kids.length n1)) = v5 at *
      replace hS1 := hS1'
      clear hS1'
      obtain ⟨z6, f0, f1, f2, ff⟩ := V6.out.facts
      refine AnyTwo.step (i := 25) (o := ⟨none, _, _, _, _, _⟩) (by kernel_rfl) rfl (fun K hK => ?_)
      go_simp
      have hS1' := bSet3 hS1 HG6.out 0 1 2 (.int .i64 S.kind) (.int .i64 S.num) (.slice a2 S.kids.length n2)
      refine hK.out _ _ (ph_one (by kernel_rfl) hS1') ?_
      clear hK K f0 f1 f2 ff
      replace V4' := tuck (V4'.out.far3 q46 0 1 2 (.int .i64 S.kind) (.int .i64 S.num) (.slice a2 S.kids.length n2))
      replace V5' := tuck (V5'.out.far3 q56 0 1 2 (.int .i64 S.kind) (.int .i64 S.num) (.slice a2 S.kids.length n2))
      have V6' : Hid (VarAt g6 S.kind S.num (.slice a2 S.kids.length n2) (((v5.setCell ⟨g6, 0, none⟩ (.int .i64 S.kind)).setCell ⟨g6, 1, none⟩ (.int .i64 S.num)).setCell ⟨g6, 2, none⟩ (.slice a2 S.kids.length n2))) := tuck V6.out.set
      replace V7 := tuck (V7.out.far3 q76 0 1 2 (.int .i64 S.kind) (.int .i64 S.num) (.slice a2 S.kids.length n2))
      clear V6
      generalize (((v5.setCell ⟨g6, 0, none⟩ (.int .i64 S.kind)).setCell ⟨g6, 1, none⟩ (.int .i64 S.num)).setCell ⟨g6, 2, none⟩ (.slice a2 S.kids.length n2)) = v6 at *
      replace hS1 := hS1'
      clear hS1'
      obtain ⟨z7, f0, f1, f2, ff⟩ := V7.out.facts
      refine AnyTwo.step (i := 26) (o := ⟨none, _, _, _, _, _⟩) (by kernel_rfl) rfl (fun K hK => ?_)
      go_simp
      have hS1' := bSet3 hS1 HG7.out 0 1 2 (.int .i64 B.kind) (.int .i64 B.num) (.slice a4 B.kids.length n4)
      refine hK.out _ _ (ph_end (by kernel_rfl) hS1') ?_
      clear hK K f0 f1 f2 ff
      replace V4' := tuck (V4'.out.far3 q47 0 1 2 (.int .i64 B.kind) (.int .i64 B.num) (.slice a4 B.kids.length n4))
      replace V5' := tuck (V5'.out.far3 q57 0 1 2 (.int .i64 B.kind) (.int .i64 B.num) (.slice a4 B.kids.length n4))
      replace V6' := tuck (V6'.out.far3 q67 0 1 2 (.int .i64 B.kind) (.int .i64 B.num) (.slice a4 B.kids.length n4))
      have V7' : Hid (VarAt g7 B.kind B.num (.slice a4 B.kids.length n4) (((v6.setCell ⟨g7, 0, none⟩ (.int .i64 B.kind)).setCell ⟨g7, 1, none⟩ (.int .i64 B.num)).setCell ⟨g7, 2, none⟩ (.slice a4 B.kids.length n4))) := tuck V7.out.set
      clear V7
      generalize (((v6.setCell ⟨g7, 0, none⟩ (.int .i64 B.kind)).setCell ⟨g7, 1, none⟩ (.int .i64 B.num)).setCell ⟨g7, 2, none⟩ (.slice a4 B.kids.length n4)) = v7 at *
      replace hS1 := hS1'
      clear hS1'
      refine AnyTwo.done (by kernel_rfl) ?_ _
      go_wp2_with fail
      go_meet
      exact ⟨g4, g5, g6, g7, rfl, rfl, rfl, rfl, hS1, V4'.out, V5'.out, V6'.out, V7'.out⟩
    ·go_simp
     have hS1' := bAfter hS1 (below1 w2 (.cells #[.int .i64 0, .int .i64 0, .slice none 0 0] 29))
     refine hK.out _ _ (ph_one (by kernel_rfl) hS1') ?_
     clear hK K
     have V7 := tuck (VarAt.new w2 0 0 (.slice none 0 0))
     have HG7 : Hid (W0.heap.size ≤ w2.heap.size) := tuck hS1.size
     replace V5 := tuck (V5.out.below (below1 w2 (.cells #[.int .i64 0, .int .i64 0, .slice none 0 0] 29)))
     replace V4 := tuck (V4.out.below (below1 w2 (.cells #[.int .i64 0, .int .i64 0, .slice none 0 0] 29)))
     have N7 : Hid (g5 < w2.heap.size ∧ g4 < w2.heap.size) := tuck ⟨HL5.out, HL4.out⟩
     replace HL5 := tuck (Nat.lt_of_lt_of_le HL5.out (below1 w2 (.cells #[.int .i64 0, .int .i64 0, .slice none 0 0] 29)).size)
     replace HL4 := tuck (Nat.lt_of_lt_of_le HL4.out (below1 w2 (.cells #[.int .i64 0, .int .i64 0, .slice none 0 0] 29)).size)
     have HL7 : Hid (w2.heap.size < (w2.alloc (.cells #[.int .i64 0, .int .i64 0, .slice none 0 0] 29)).heap.size) := tuck V7.out.facts.1
     try simp only [Act.put, List.setIfInBounds_toArray, List.set_cons_zero, List.set_cons_succ]
     generalize (w2.alloc (.cells #[.int .i64 0, .int .i64 0, .slice none 0 0] 29)) = w3 at *
     generalize w2.heap.size = g7 at *
     replace hS1 := hS1'
     clear hS1'
     refine AnyTwo.step (i := 21) (o := ⟨some 6, _, _, _, _, _⟩) (by kernel_rfl) rfl (fun K hK => ?_)
     ·go_simp
      have hS1' := bAfter hS1 (below1 w3 (.cells #[.int .i64 0, .int .i64 0, .slice none 0 0] 29))
      refine hK.out _ _ (ph_one (by kernel_rfl) hS1') ?_
      clear hK K
      have V6 := tuck (VarAt.new w3 0 0 (.slice none 0 0))
      have HG6 : Hid (W0.heap.size ≤ w3.heap.size) := tuck hS1.size
      replace V5 := tuck (V5.out.below (below1 w3 (.cells #[.int .i64 0, .int .i64 0, .slice none 0 0] 29)))
      replace V4 := tuck (V4.out.below (below1 w3 (.cells #[.int .i64 0, .int .i64 0, .slice none 0 0] 29)))
      replace V7 := tuck (V7.out.below (below1 w3 (.cells #[.int .i64 0, .int .i64 0, .slice none 0 0] 29)))
      have N6 : Hid (g5 < w3.heap.size ∧ g4 < w3.heap.size ∧ g7 < w3.heap.size) := tuck ⟨HL5.out, HL4.out, HL7.out⟩
      replace HL5 := tuck (Nat.lt_of_lt_of_le HL5.out (below1 w3 (.cells #[.int .i64 0, .int .i64 0, .slice none 0 0] 29)).size)
      replace HL4 := tuck (Nat.lt_of_lt_of_le HL4.out (below1 w3 (.cells #[.int .i64 0, .int .i64 0, .slice none 0 0] 29)).size)
      replace HL7 := tuck (Nat.lt_of_lt_of_le HL7.out (below1 w3 (.cells #[.int .i64 0, .int .i64 0, .slice none 0 0] 29)).size)
      have HL6 : Hid (w3.heap.size < (w3.alloc (.cells #[.int .i64 0, .int .i64 0, .slice none 0 0] 29)).heap.size) := tuck V6.out.facts.1
      try simp only [Act.put, List.setIfInBounds_toArray, List.set_cons_zero, List.set_cons_succ]
      generalize (w3.alloc (.cells #[.int .i64 0, .int .i64 0, .slice none 0 0] 29)) = w4 at *
      generalize w3.heap.size = g6 at *
      replace hS1 := hS1'
      clear hS1'
      have q54 : g5 ≠ g4 := Nat.ne_of_lt (N4.out)
      have q45 : g4 ≠ g5 := Ne.symm q54
      have q57 : g5 ≠ g7 := Nat.ne_of_lt (N7.out.1)
      have q75 : g7 ≠ g5 := Ne.symm q57
      have q47 : g4 ≠ g7 := Nat.ne_of_lt (N7.out.2)
      have q74 : g7 ≠ g4 := Ne.symm q47
      have q56 : g5 ≠ g6 := Nat.ne_of_lt (N6.out.1)
      have q65 : g6 ≠ g5 := Ne.symm q56
      have q46 : g4 ≠ g6 := Nat.ne_of_lt (N6.out.2.1)
      have q64 : g6 ≠ g4 := Ne.symm q46
      have q76 : g7 ≠ g6 := Nat.ne_of_lt (N6.out.2.2)
      have q67 : g6 ≠ g7 := Ne.symm q76
      obtain ⟨z4, f0, f1, f2, ff⟩ := V4.out.facts
      refine AnyTwo.step (i := 23) (o := ⟨none, _, _, _, _, _⟩) (by kernel_rfl) rfl (fun K hK => ?_)
      go_simp
      have hS1' := bSet3 hS1 HG4.out 0 1 2 (.int .i64 P.kind) (.int .i64 P.num) (.slice a0 P.kids.length n0)
      refine hK.out _ _ (ph_one (by kernel_rfl) hS1') ?_
      clear hK K f0 f1 f2 ff
      have V4' : Hid (VarAt g4 P.kind P.num (.slice a0 P.kids.length n0) (((w4.setCell ⟨g4, 0, none⟩ (.int .i64 P.kind)).setCell ⟨g4, 1, none⟩ (.int .i64 P.num)).setCell ⟨g4, 2, none⟩ (.slice a0 P.kids.length n0))) := tuck V4.out.set
      replace V5 := tuck (V5.out.far3 q54 0 1 2 (.int .i64 P.kind) (.int .i64 P.num) (.slice a0 P.kids.length n0))
      replace V6 := tuck (V6.out.far3 q64 0 1 2 (.int .i64 P.kind) (.int .i64 P.num) (.slice a0 P.kids.length n0))
      replace V7 := tuck (V7.out.far3 q74 0 1 2 (.int .i64 P.kind) (.int .i64 P.num) (.slice a0 P.kids.length n0))
      clear V4
      generalize (((w4.setCell ⟨g4, 0, none⟩ (.int .i64 P.kind)).setCell ⟨g4, 1, none⟩ (.int .i64 P.num)).setCell ⟨g4, 2, none⟩ (.slice a0 P.kids.length n0)) = v4 at *
      replace hS1 := hS1'
      clear hS1'
      obtain ⟨z5, f0, f1, f2, ff⟩ := V5.out.facts
      refine AnyTwo.step (i := 24) (o := ⟨none, _, _, _, _, _⟩) (by kernel_rfl) rfl (fun K hK => ?_)
      go_simp
      have hS1' := bSet3 hS1 HG5.out 0 1 2 (.int .i64 Z.kind) (.int .i64 Z.num) (.slice a1 Z.kids.length n1)
      refine hK.out _ _ (ph_one (by kernel_rfl) hS1') ?_
      clear hK K f0 f1 f2 ff
      replace V4' := tuck (V4'.out.far3 q45 0 1 2 (.int .i64 Z.kind) (.int .i64 Z.num) (.slice a1 Z.kids.length n1))
      have V5' : Hid (VarAt g5 Z.kind Z.num (.slice a1 Z.kids.length n1) (((v4.setCell ⟨g5, 0, none⟩ (.int .i64 Z.kind)).setCell ⟨g5, 1, none⟩ (.int .i64 Z.num)).setCell ⟨g5, 2, none⟩ (.slice a1 Z.kids.length n1))) := tuck V5.out.set
      replace V6 := tuck (V6.out.far3 q65 0 1 2 (.int .i64 Z.kind) (.int .i64 Z.num) (.slice a1 Z.kids.length n1))
      replace V7 := tuck (V7.out.far3 q75 0 1 2 (.int .i64 Z.kind) (.int .i64 Z.num) (.slice a1 Z.kids.length n1))
      clear V5
      generalize (((v4.setCell ⟨g5, 0, none⟩ (.int .i64 Z.kind)).setCell ⟨g5, 1, none⟩ (.int .i64 Z.num)).setCell ⟨g5, 2, none⟩ (.slice a1 Z.kids.length n1)) = v5 at *
      replace hS1 := hS1'
      clear hS1'
      obtain ⟨z6, f0, f1, f2, ff⟩ := V6.out.facts
      refine AnyTwo.step (i := 25) (o := ⟨none, _, _, _, _, _⟩) (by kernel_rfl) rfl (fun K hK => ?_)
      go_simp
      have hS1' := bSet3 hS1 HG6.out 0 1 2 (.int .i64 S.kind) (.int .i64 S.num) (.slice a2 S.kids.length n2)
      refine hK.out _ _ (ph_one (by kernel_rfl) hS1') ?_
      clear hK K f0 f1 f2 ff
      replace V4' := tuck (V4'.out.far3 q46 0 1 2 (.int .i64 S.kind) (.int .i64 S.num) (.slice a2 S.kids.length n2))
      replace V5' := tuck (V5'.out.far3 q56 0 1 2 (.int .i64 S.kind) (.int .i64 S.num) (.slice a2 S.kids.length n2))
      have V6' : Hid (VarAt g6 S.kind S.num (.slice a2 S.kids.length n2) (((v5.setCell ⟨g6, 0, none⟩ (.int .i64 S.kind)).setCell ⟨g6, 1, none⟩ (.int .i64 S.num)).setCell ⟨g6, 2, none⟩ (.slice a2 S.kids.length n2))) := tuck V6.out.set
      replace V7 := tuck (V7.out.far3 q76 0 1 2 (.int .i64 S.kind) (.int .i64 S.num) (.slice a2 S.kids.length n2))
      clear V6
      generalize (((v5.setCell ⟨g6, 0, none⟩ (.int .i64 S.kind)).setCell ⟨g6, 1, none⟩ (.int .i64 S.num)).setCell ⟨g6, 2, none⟩ (.slice a2 S.kids.length n2)) = v6 at *
      replace hS1 := hS1'
      clear hS1'
      obtain ⟨z7, f0, f1, f2, ff⟩ := V7.out.facts
      refine AnyTwo.step (i := 26) (o := ⟨none, _, _, _, _, _⟩) (by kernel_rfl) rfl (fun K hK => ?_)
      go_simp
      have hS1' := bSet3 hS1 HG7.out 0 1 2 (.int .i64 B.kind) (.int .i64 B.num) (.slice a4 B.kids.length n4)
      refine hK.out _ _ (ph_end (by kernel_rfl) hS1') ?_
      clear hK K f0 f1 f2 ff
      replace V4' := tuck (V4'.out.far3 q47 0 1 2 (.int .i64 B.kind) (.int .i64 B.num) (.slice a4 B.kids.length n4))
      replace V5' := tuck (V5'.out.far3 q57 0 1 2 (.int .i64 B.kind) (.int .i64 B.num) (.slice a4 B.kids.length n4))
      replace V6' := tuck (V6'.out.far3 q67 0 1 2 (.int .i64 B.kind) (.int .i64 B.num) (.slice a4 B.kids.length n4))
      have V7' : Hid (VarAt g7 B.kind B.num (.slice a4 B.kids.length n4) (((v6.setCell ⟨g7, 0, none⟩ (.int .i64 B.kind)).setCell ⟨g7, 1, none⟩ (.int .i64 B.num)).setCell ⟨g7, 2, none⟩ (.slice a4 B.kids.length n4))) := tuck V7.out.set
      clear V7
      generalize (((v6.setCell ⟨g7, 0, none⟩ (.int .i64 B.kind)).setCell ⟨g7, 1, none⟩ (.int .i64 B.num)).setCell ⟨g7, 2, none⟩ (.slice a4 B.kids.length n4)) = v7 at *
      replace hS1 := hS1'
      clear hS1'
      refine AnyTwo.done (by kernel_rfl) ?_ _
      go_wp2_with fail
      go_meet
      exact ⟨g4, g5, g6, g7, rfl, rfl, rfl, rfl, hS1, V4'.out, V5'.out, V6'.out, V7'.out⟩
   ·go_simp
    have hS1' := bAfter hS1 (below1 w1 (.cells #[.int .i64 0, .int .i64 0, .slice none 0 0] 29))
    refine hK.out _ _ (ph_one (by kernel_rfl) hS1') ?_
    clear hK K
    have V6 := tuck (VarAt.new w1 0 0 (.slice none 0 0))
    have HG6 : Hid (W0.heap.size ≤ w1.heap.size) := tuck hS1.size
    replace V5 := tuck (V5.out.below (below1 w1 (.cells #[.int .i64 0, .int .i64 0, .slice none 0 0] 29)))
    have N6 : Hid (g5 < w1.heap.size) := tuck HL5.out
    replace HL5 := tuck (Nat.lt_of_lt_of_le HL5.out (below1 w1 (.cells #[.int .i64 0, .int .i64 0, .slice none 0 0] 29)).size)
    have HL6 : Hid (w1.heap.size < (w1.alloc (.cells #[.int .i64 0, .int .i64 0, .slice none 0 0] 29)).heap.size) := tuck V6.out.facts.1
    try simp only [Act.put, List.setIfInBounds_toArray, List.set_cons_zero, List.set_cons_succ]
    generalize (w1.alloc (.cells #[.int .i64 0, .int .i64 0, .slice none 0 0] 29)) = w2 at *
    generalize w1.heap.size = g6 at *
    replace hS1 := hS1'
    clear hS1'
    refine AnyTwo.fork (i := 19) (j := 22) (o := ⟨some 4, _, _, _, _, _⟩) (o' := ⟨some 7, _, _, _, _, _⟩) (by kernel_rfl) rfl rfl (fun K hK => ?_) (fun K hK => ?_)
    ·go_simp
     have hS1' := bAfter hS1 (below1 w2 (.cells #[.int .i64 0, .int .i64 0, .slice none 0 0] 29))
     refine hK.out _ _ (ph_one (by kernel_rfl) hS1') ?_
     clear hK K
     have V4 := tuck (VarAt.new w2 0 0 (.slice none 0 0))
     have HG4 : Hid (W0.heap.size ≤ w2.heap.size) := tuck hS1.size
     replace V5 := tuck (V5.out.below (below1 w2 (.cells #[.int .i64 0, .int .i64 0, .slice none 0 0] 29)))
     replace V6 := tuck (V6.out.below (below1 w2 (.cells #[.int .i64 0, .int .i64 0, .slice none 0 0] 29)))
     have N4 : Hid (g5 < w2.heap.size ∧ g6 < w2.heap.size) := tuck ⟨HL5.out, HL6.out⟩
     replace HL5 := tuck (Nat.lt_of_lt_of_le HL5.out (below1 w2 (.cells #[.int .i64 0, .int .i64 0, .slice none 0 0] 29)).size)
     replace HL6 := tuck (Nat.lt_of_lt_of_le HL6.out (below1 w2 (.cells #[.int .i64 0, .int .i64 0, .slice none 0 0] 29)).size)
     have HL4 : Hid (w2.heap.size < (w2.alloc (.cells #[.int .i64 0, .int .i64 0, .slice none 0 0] 29)).heap.size) := tuck V4.out.facts.1
     try simp only [Act.put, List.setIfInBounds_toArray, List.set_cons_zero, List.set_cons_succ]
     generalize (w2.alloc (.cells #[.int .i64 0, .int .i64 0, .slice none 0 0] 29)) = w3 at *
     generalize w2.heap.size = g4 at *
     replace hS1 := hS1'
     clear hS1'
     refine AnyTwo.step (i := 22) (o := ⟨some 7, _, _, _, _, _⟩) (by kernel_rfl) rfl (fun K hK => ?_)
     ·go_simp
      have hS1' := bAfter hS1 (below1 w3 (.cells #[.int .i64 0, .int .i64 0, .slice none 0 0] 29))
      refine hK.out _ _ (ph_one (by kernel_rfl) hS1') ?_
      clear hK K
      have V7 := tuck (VarAt.new w3 0 0 (.slice none 0 0))
      have HG7 : Hid (W0.heap.size ≤ w3.heap.size) := tuck hS1.size
      replace V5 := tuck (V5.out.below (below1 w3 (.cells #[.int .i64 0, .int .i64 0, .slice none 0 0] 29)))
      replace V6 := tuck (V6.out.below (below1 w3 (.cells #[.int .i64 0, .int .i64 0, .slice none 0 0] 29)))
      replace V4 := tuck (V4.out.below (below1 w3 (.cells #[.int .i64 0, .int .i64 0, .slice none 0 0] 29)))
      have N7 : Hid (g5 < w3.heap.size ∧ g6 < w3.heap.size ∧ g4 < w3.heap.size) := tuck ⟨HL5.out, HL6.out, HL4.out⟩
      replace HL5 := tuck (Nat.lt_of_lt_of_le HL5.out (below1 w3 (.cells #[.int .i64 0, .int .i64 0, .slice none 0 0] 29)).size)
      replace HL6 := tuck (Nat.lt_of_lt_of_le HL6.out (below1 w3 (.cells #[.int .i64 0, .int .i64 0, .slice none 0 0] 29)).size)
      replace HL4 := tuck (Nat.lt_of_lt_of_le HL4.out (below1 w3 (.cells #[.int .i64 0, .int .i64 0, .slice none 0 0] 29)).size)
      have HL7 : Hid (w3.heap.size < (w3.alloc (.cells #[.int .i64 0, .int .i64 0, .slice none 0 0] 29)).heap.size) := tuck V7.out.facts.1
      try simp only [Act.put, List.setIfInBounds_toArray, List.set_cons_zero, List.set_cons_succ]
      generalize (w3.alloc (.cells #[.int .i64 0, .int .i64 0, .slice none 0 0] 29)) = w4 at *
      generalize w3.heap.size = g7 at *
      replace hS1 := hS1'
      clear hS1'
      have q56 : g5 ≠ g6 := Nat.ne_of_lt (N6.out)
      have q65 : g6 ≠ g5 := Ne.symm q56
      have q54 : g5 ≠ g4 := Nat.ne_of_lt (N4.out.1)
      have q45 : g4 ≠ g5 := Ne.symm q54
      have q64 : g6 ≠ g4 := Nat.ne_of_lt (N4.out.2)
      have q46 : g4 ≠ g6 := Ne.symm q64
      have q57 : g5 ≠ g7 := Nat.ne_of_lt (N7.out.1)
      have q75 : g7 ≠ g5 := Ne.symm q57
      have q67 : g6 ≠ g7 := Nat.ne_of_lt (N7.out.2.1)
      have q76 : g7 ≠ g6 := Ne.symm q67
      have q47 : g4 ≠ g7 := Nat.ne_of_lt (N7.out.2.2)
      have q74 : g7 ≠ g4 := Ne.symm q47
      obtain ⟨z4, f0, f1, f2, ff⟩ := V4.out.facts
      refine AnyTwo.step (i := 23) (o := ⟨none, _, _, _, _, _⟩) (by kernel_rfl) rfl (fun K hK => ?_)
      go_simp
      have hS1' := bSet3 hS1 HG4.out 0 1 2 (.int .i64 P.kind) (.int .i64 P.num) (.slice a0 P.kids.length n0)
      refine hK.out _ _ (ph_one (by kernel_rfl) hS1') ?_
      clear hK K f0 f1 f2 ff
      have V4' : Hid (VarAt g4 P.kind P.num (.slice a0 P.kids.length n0) (((w4.setCell ⟨g4, 0, none⟩ (.int .i64 P.kind)).setCell ⟨g4, 1, none⟩ (.int .i64 P.num)).setCell ⟨g4, 2, none⟩ (.slice a0 P.kids.length n0))) := tuck V4.out.set
      replace V5 := tuck (V5.out.far3 q54 0 1 2 (.int .i64 P.kind) (.int .i64 P.num) (.slice a0 P.kids.length n0))
      replace V6 := tuck (V6.out.far3 q64 0 1 2 (.int .i64 P.kind) (.int .i64 P.num) (.slice a0 P.kids.length n0))
      replace V7 := tuck (V7.out.far3 q74 0 1 2 (.int .i64 P.kind) (.int .i64 P.num) (.slice a0 P.kids.length n0))
      clear V4
      generalize (((w4.setCell ⟨g4, 0, none⟩ (.int .i64 P.kind)).setCell ⟨g4, 1, none⟩ (.int .i64 P.num)).setCell ⟨g4, 2, none⟩ (.slice a0 P.kids.length n0)) = v4 at *
      replace hS1 := hS1'
      clear hS1'
      obtain ⟨z5, f0, f1, f2, ff⟩ := V5.out.facts
      refine AnyTwo.step (i := 24) (o := ⟨none, _, _, _, _, _⟩) (by kernel_rfl) rfl (fun K hK => ?_)
      go_simp
      have hS1' := bSet3 hS1 HG5.out 0 1 2 (.int .i64 Z.kind) (.int .i64 Z.num) (.slice a1 Z.kids.length n1)
      refine hK.out _ _ (ph_one (by kernel_rfl) hS1') ?_
      clear hK K f0 f1 f2 ff
      replace V4' := tuck (V4'.out.far3 q45 0 1 2 (.int .i64 Z.kind) (.int .i64 Z.num) (.slice a1 Z.kids.length n1))
      have V5' : Hid (VarAt g5 Z.kind Z.num (.slice a1 Z.kids.length n1) (((v4.setCell ⟨g5, 0, none⟩ (.int .i64 Z.kind)).setCell ⟨g5, 1, none⟩ (.int .i64 Z.num)).setCell ⟨g5, 2, none⟩ (.slice a1 Z.kids.length n1))) := tuck V5.out.set
      replace V6 := tuck (V6.out.far3 q65 0 1 2 (.int .i64 Z.kind) (.int .i64 Z.num) (.slice a1 Z.kids.length n1))
      replace V7 := tuck (V7.out.far3 q75 0 1 2 (.int .i64 Z.kind) (.int .i64 Z.num) (.slice a1 Z.kids.length n1))
      clear V5
      generalize (((v4.setCell ⟨g5, 0, none⟩ (.int .i64 Z.kind)).setCell ⟨g5, 1, none⟩ (.int .i64 Z.num)).setCell ⟨g5, 2, none⟩ (.slice a1 Z.kids.length n1)) = v5 at *
      replace hS1 := hS1'
      clear hS1'
      obtain ⟨z6, f0, f1, f2, ff⟩ := V6.out.facts
      refine AnyTwo.step (i := 25) (o := ⟨none, _, _, _, _, _⟩) (by kernel_rfl) rfl (fun K hK => ?_)
      go_simp
      have hS1' := bSet3 hS1 HG6.out 0 1 2 (.int .i64 S.kind) (.int .i64 S.num) (.slice a2 S.kids.length n2)
      refine hK.out _ _ (ph_one (by kernel_rfl) hS1') ?_
      clear hK K f0 f1 f2 ff
      replace V4' := tuck (V4'.out.far3 q46 0 1 2 (.int .i64 S.kind) (.int .i64 S.num) (.slice a2 S.kids.length n2))
      replace V5' := tuck (V5'.out.far3 q56 0 1 2 (.int .i64 S.kind) (.int .i64 S.num) (.slice a2 S.kids.length n2))
      have V6' : Hid (VarAt g6 S.kind S.num (.slice a2 S.kids.length n2) (((v5.setCell ⟨g6, 0, none⟩ (.int .i64 S.kind)).setCell ⟨g6, 1, none⟩ (.int .i64 S.num)).setCell ⟨g6, 2, none⟩ (.slice a2 S.kids.length n2))) := tuck V6.out.set
      replace V7 := tuck (V7.out.far3 q76 0 1 2 (.int .i64 S.kind) (.int .i64 S.num) (.slice a2 S.kids.length n2))
      clear V6
      generalize (((v5.setCell ⟨g6, 0, none⟩ (.int .i64 S.kind)).setCell ⟨g6, 1, none⟩ (.int .i64 S.num)).setCell ⟨g6, 2, none⟩ (.slice a2 S.kids.length n2)) = v6 at *
      replace hS1 := hS1'
      clear hS1'
      obtain ⟨z7, f0, f1, f2, ff⟩ := V7.out.facts
      refine AnyTwo.step (i := 26) (o := ⟨none, _, _, _, _, _⟩) (by kernel_rfl) rfl (fun K hK => ?_)
      go_simp
      have hS1' := bSet3 hS1 HG7.out 0 1 2 (.int .i64 B.kind) (.int .i64 B.num) (.slice a4 B.kids.length n4)
      refine hK.out _ _ (ph_end (by kernel_rfl) hS1') ?_
      clear hK K f0 f1 f2 ff
      replace V4' := tuck (V4'.out.far3 q47 0 1 2 (.int .i64 B.kind) (.int .i64 B.num) (.slice a4 B.kids.length n4))
      replace V5' := tuck (V5'.out.far3 q57 0 1 2 (.int .i64 B.kind) (.int .i64 B.num) (.slice a4 B.kids.length n4))
      replace V6' := tuck (V6'.out.far3 q67 0 1 2 (.int .i64 B.kind) (.int .i64 B.num) (.slice a4 B.kids.length n4))
      have V7' : Hid (VarAt g7 B.kind B.num (.slice a4 B.kids.length n4) (((v6.setCell ⟨g7, 0, none⟩ (.int .i64 B.kind)).setCell ⟨g7, 1, none⟩ (.int .i64 B.num)).setCell ⟨g7, 2, none⟩ (.slice a4 B.kids.length n4))) := tuck V7.out.set
      clear V7
      generalize (((v6.setCell ⟨g7, 0, none⟩ (.int .i64 B.kind)).setCell ⟨g7, 1, none⟩ (.int .i64 B.num)).setCell ⟨g7, 2, none⟩ (.slice a4 B.kids.length n4)) = v7 at *
      replace hS1 := hS1'
      clear hS1'
      refine AnyTwo.done (by kernel_rfl) ?_ _
      go_wp2_with fail
      go_meet
      exact ⟨g4, g5, g6, g7, rfl, rfl, rfl, rfl, hS1, V4'.out, V5'.out, V6'.out, V7'.out⟩
    ·go_simp
     have hS1' := bAfter hS1 (below1 w2 (.cells #[.int .i64 0, .int .i64 0, .slice none 0 0] 29))
     refine hK.out _ _ (ph_one (by kernel_rfl) hS1') ?_
     clear hK K
     have V7 := tuck (VarAt.new w2 0 0 (.slice none 0 0))
     have HG7 : Hid (W0.heap.size ≤ w2.heap.size) := tuck hS1.size
     replace V5 := tuck (V5.out.below (below1 w2 (.cells #[.int .i64 0, .int .i64 0, .slice none 0 0] 29)))
     replace V6 := tuck (V6.out.below (below1 w2 (.cells #[.int .i64 0, .int .i64 0, .slice none 0 0] 29)))
     have N7 : Hid (g5 < w2.heap.size ∧ g6 < w2.heap.size) := tuck ⟨HL5.out, HL6.out⟩
     replace HL5 := tuck (Nat.lt_of_lt_of_le HL5.out (below1 w2 (.cells #[.int .i64 0, .int .i64 0, .slice none 0 0] 29)).size)
     replace HL6 := tuck (Nat.lt_of_lt_of_le HL6.out (below1 w2 (.cells #[.int .i64 0, .int .i64 0, .slice none 0 0] 29)).size)
     have HL7 : Hid (w2.heap.size < (w2.alloc (.cells #[.int .i64 0, .int .i64 0, .slice none 0 0] 29)).heap.size) := tuck V7.out.facts.1
     try simp only [Act.put, List.setIfInBounds_toArray, List.set_cons_zero, List.set_cons_succ]
     generalize (w2.alloc (.cells #[.int .i64 0, .int .i64 0, .slice none 0 0] 29)) = w3 at *
     generalize w2.heap.size = g7 at *
     replace hS1 := hS1'
     clear hS1'
     refine AnyTwo.step (i := 19) (o := ⟨some 4, _, _, _, _, _⟩) (by kernel_rfl) rfl (fun K hK => ?_)
     ·go_simp
      have hS1' := bAfter hS1 (below1 w3 (.cells #[.int .i64 0, .int .i64 0, .slice none 0 0] 29))
      refine hK.out _ _ (ph_one (by kernel_rfl) hS1') ?_
      clear hK K
      have V4 := tuck (VarAt.new w3 0 0 (.slice none 0 0))
      have HG4 : Hid (W0.heap.size ≤ w3.heap.size) := tuck hS1.size
      replace V5 := tuck (V5.out.below (below1 w3 (.cells #[.int .i64 0, .int .i64 0, .slice none 0 0] 29)))
      replace V6 := tuck (V6.out.below (below1 w3 (.cells #[.int .i64 0, .int .i64 0, .slice none 0 0] 29)))
      replace V7 := tuck (V7.out.below (below1 w3 (.cells #[.int .i64 0, .int .i64 0, .slice none 0 0] 29)))
      have N4 : Hid (g5 < w3.heap.size ∧ g6 < w3.heap.size ∧ g7 < w3.heap.size) := tuck ⟨HL5.out, HL6.out, HL7.out⟩
      replace HL5 := tuck (Nat.lt_of_lt_of_le HL5.out (below1 w3 (.cells #[.int .i64 0, .int .i64 0, .slice none 0 0] 29)).size)
      replace HL6 := tuck (Nat.lt_of_lt_of_le HL6.out (below1 w3 (.cells #[.int .i64 0, .int .i64 0, .slice none 0 0] 29)).size)
      replace HL7 := tuck (Nat.lt_of_lt_of_le HL7.out (below1 w3 (.cells #[.int .i64 0, .int .i64 0, .slice none 0 0] 29)).size)
      have HL4 : Hid (w3.heap.size < (w3.alloc (.cells #[.int .i64 0, .int .i64 0, .slice none 0 0] 29)).heap.size) := tuck V4.out.facts.1
      try simp only [Act.put, List.setIfInBounds_toArray, List.set_cons_zero, List.set_cons_succ]
      generalize (w3.alloc (.cells #[.int .i64 0, .int .i64 0, .slice none 0 0] 29)) = w4 at *
      generalize w3.heap.size = g4 at *
      replace hS1 := hS1'
      clear hS1'
      have q56 : g5 ≠ g6 := Nat.ne_of_lt (N6.out)
      have q65 : g6 ≠ g5 := Ne.symm q56
      have q57 : g5 ≠ g7 := Nat.ne_of_lt (N7.out.1)
      have q75 : g7 ≠ g5 := Ne.symm q57
      have q67 : g6 ≠ g7 := Nat.ne_of_lt (N7.out.2)
      have q76 : g7 ≠ g6 := Ne.symm q67
      have q54 : g5 ≠ g4 := Nat.ne_of_lt (N4.out.1)
      have q45 : g4 ≠ g5 := Ne.symm q54
      have q64 : g6 ≠ g4 := Nat.ne_of_lt (N4.out.2.1)
      have q46 : g4 ≠ g6 := Ne.symm q64
      have q74 : g7 ≠ g4 := Nat.ne_of_lt (N4.out.2.2)
      have q47 : g4 ≠ g7 := Ne.symm q74
      obtain ⟨z4, f0, f1, f2, ff⟩ := V4.out.facts
      refine AnyTwo.step (i := 23) (o := ⟨none, _, _, _, _, _⟩) (by kernel_rfl) rfl (fun K hK => ?_)
      go_simp
      have hS1' := bSet3 hS1 HG4.out 0 1 2 (.int .i64 P.kind) (.int .i64 P.num) (.slice a0 P.kids.length n0)
      refine hK.out _ _ (ph_one (by kernel_rfl) hS1') ?_
      clear hK K f0 f1 f2 ff
      have V4' : Hid (VarAt g4 P.kind P.num (.slice a0 P.kids.length n0) (((w4.setCell ⟨g4, 0, none⟩ (.int .i64 P.kind)).setCell ⟨g4, 1, none⟩ (.int .i64 P.num)).setCell ⟨g4, 2, none⟩ (.slice a0 P.kids.length n0))) := tuck V4.out.set
      replace V5 := tuck (V5.out.far3 q54 0 1 2 (.int .i64 P.kind) (.int .i64 P.num) (.slice a0 P.kids.length n0))
      replace V6 := tuck (V6.out.far3 q64 0 1 2 (.int .i64 P.kind) (.int .i64 P.num) (.slice a0 P.kids.length n0))
      replace V7 := tuck (V7.out.far3 q74 0 1 2 (.int .i64 P.kind) (.int .i64 P.num) (.slice a0 P.kids.length n0))
      clear V4
      generalize (((w4.setCell ⟨g4, 0, none⟩ (.int .i64 P.kind)).setCell ⟨g4, 1, none⟩ (.int .i64 P.num)).setCell ⟨g4, 2, none⟩ (.slice a0 P.kids.length n0)) = v4 at *
      replace hS1 := hS1'
      clear hS1'
      obtain ⟨z5, f0, f1, f2, ff⟩ := V5.out.facts
      refine AnyTwo.step (i := 24) (o := ⟨none, _, _, _, _, _⟩) (by kernel_rfl) rfl (fun K hK => ?_)
      go_simp
      have hS1' := bSet3 hS1 HG5.out 0 1 2 (.int .i64 Z.kind) (.int .i64 Z.num) (.slice a1 Z.kids.length n1)
      refine hK.out _ _ (ph_one (by kernel_rfl) hS1') ?_
      clear hK K f0 f1 f2 ff
      replace V4' := tuck (V4'.out.far3 q45 0 1 2 (.int .i64 Z.kind) (.int .i64 Z.num) (.slice a1 Z.kids.length n1))
      have V5' : Hid (VarAt g5 Z.kind Z.num (.slice a1 Z.kids.length n1) (((v4.setCell ⟨g5, 0, none⟩ (.int .i64 Z.kind)).setCell ⟨g5, 1, none⟩ (.int .i64 Z.num)).setCell ⟨g5, 2, none⟩ (.slice a1 Z.kids.length n1))) := tuck V5.out.set
      replace V6 := tuck (V6.out.far3 q65 0 1 2 (.int .i64 Z.kind) (.int .i64 Z.num) (.slice a1 Z.kids.length n1))
      replace V7 := tuck (V7.out.far3 q75 0 1 2 (.int .i64 Z.kind) (.int .i64 Z.num) (.slice a1 Z.kids.length n1))
      clear V5
      generalize (((v4.setCell ⟨g5, 0, none⟩ (.int .i64 Z.kind)).setCell ⟨g5, 1, none⟩ (.int .i64 Z.num)).setCell ⟨g5, 2, none⟩ (.slice a1 Z.kids.length n1)) = v5 at *
      replace hS1 := hS1'
      clear hS1'
      obtain ⟨z6, f0, f1, f2, ff⟩ := V6.out.facts
      refine AnyTwo.step (i := 25) (o := ⟨none, _, _, _, _, _⟩) (by kernel_rfl) rfl (fun K hK => ?_)
      go_simp
      have hS1' := bSet3 hS1 HG6.out 0 1 2 (.int .i64 S.kind) (.int .i64 S.num) (.slice a2 S.kids.length n2)
      refine hK.out _ _ (ph_one (by kernel_rfl) hS1') ?_
      clear hK K f0 f1 f2 ff
      replace V4' := tuck (V4'.out.far3 q46 0 1 2 (.int .i64 S.kind) (.int .i64 S.num) (.slice a2 S.kids.length n2))
      replace V5' := tuck (V5'.out.far3 q56 0 1 2 (.int .i64 S.kind) (.int .i64 S.num) (.slice a2 S.kids.length n2))
      have V6' : Hid (VarAt g6 S.kind S.num (.slice a2 S.kids.length n2) (((v5.setCell ⟨g6, 0, none⟩ (.int .i64 S.kind)).setCell ⟨g6, 1, none⟩ (.int .i64 S.num)).setCell ⟨g6, 2, none⟩ (.slice a2 S.kids.length n2))) := tuck V6.out.set
      replace V7 := tuck (V7.out.far3 q76 0 1 2 (.int .i64 S.kind) (.int .i64 S.num) (.slice a2 S.kids.length n2))
      clear V6
      generalize (((v5.setCell ⟨g6, 0, none⟩ (.int .i64 S.kind)).setCell ⟨g6, 1, none⟩ (.int .i64 S.num)).setCell ⟨g6, 2, none⟩ (.slice a2 S.kids.length n2)) = v6 at *
      replace hS1 := hS1'
      clear hS1'
      obtain ⟨z7, f0, f1, f2, ff⟩ := V7.out.facts
      refine AnyTwo.step (i := 26) (o := ⟨none, _, _, _, _, _⟩) (by kernel_rfl) rfl (fun K hK => ?_)
      go_simp
      have hS1' := bSet3 hS1 HG7.out 0 1 2 (.int .i64 B.kind) (.int .i64 B.num) (.slice a4 B.kids.length n4)
      refine hK.out _ _ (ph_end (by kernel_rfl) hS1') ?_
      clear hK K f0 f1 f2 ff
      replace V4' := tuck (V4'.out.far3 q47 0 1 2 (.int .i64 B.kind) (.int .i64 B.num) (.slice a4 B.kids.length n4))
      replace V5' := tuck (V5'.out.far3 q57 0 1 2 (.int .i64 B.kind) (.int .i64 B.num) (.slice a4 B.kids.length n4))
      replace V6' := tuck (V6'.out.far3 q67 0 1 2 (.int .i64 B.kind) (.int .i64 B.num) (.slice a4 B.kids.length n4))
      have V7' : Hid (VarAt g7 B.kind B.num (.slice a4 B.kids.length n4) (((v6.setCell ⟨g7, 0, none⟩ (.int .i64 B.kind)).setCell ⟨g7, 1, none⟩ (.int .i64 B.num)).setCell ⟨g7, 2, none⟩ (.slice a4 B.kids.length n4))) := tuck V7.out.set
      clear V7
      generalize (((v6.setCell ⟨g7, 0, none⟩ (.int .i64 B.kind)).setCell ⟨g7, 1, none⟩ (.int .i64 B.num)).setCell ⟨g7, 2, none⟩ (.slice a4 B.kids.length n4)) = v7 at *
      replace hS1 := hS1'
      clear hS1'
      refine AnyTwo.done (by kernel_rfl) ?_ _
      go_wp2_with fail
      go_meet
      exact ⟨g4, g5, g6, g7, rfl, rfl, rfl, rfl, hS1, V4'.out, V5'.out, V6'.out, V7'.out⟩
   ·go_simp
    have hS1' := bAfter hS1 (below1 w1 (.cells #[.int .i64 0, .int .i64 0, .slice none 0 0] 29))
    refine hK.out _ _ (ph_one (by kernel_rfl) hS1') ?_
    clear hK K
    have V7 := tuck (VarAt.new w1 0 0 (.slice none 0 0))
    have HG7 : Hid (W0.heap.size ≤ w1.heap.size) := tuck hS1.size
    replace V5 := tuck (V5.out.below (below1 w1 (.cells #[.int .i64 0, .int .i64 0, .slice none 0 0] 29)))
    have N7 : Hid (g5 < w1.heap.size) := tuck HL5.out
    replace HL5 := tuck (Nat.lt_of_lt_of_le HL5.out (below1 w1 (.cells #[.int .i64 0, .int .i64 0, .slice none 0 0] 29)).size)
    have HL7 : Hid (w1.heap.size < (w1.alloc (.cells #[.int .i64 0, .int .i64 0, .slice none 0 0] 29)).heap.size) := tuck V7.out.facts.1
    try simp only [Act.put, List.setIfInBounds_toArray, List.set_cons_zero, List.set_cons_succ]
    generalize (w1.alloc (.cells #[.int .i64 0, .int .i64 0, .slice none 0 0] 29)) = w2 at *
    generalize w1.heap.size = g7 at *
    replace hS1 := hS1'
    clear hS1'
    refine AnyTwo.fork (i := 19) (j := 21) (o := ⟨some 4, _, _, _, _, _⟩) (o' := ⟨some 6, _, _, _, _, _⟩) (by kernel_rfl) rfl rfl (fun K hK => ?_) (fun K hK => ?_)
    ·go_simp
     have hS1' := bAfter hS1 (below1 w2 (.cells #[.int .i64 0, .int .i64 0, .slice none 0 0] 29))
     refine hK.out _ _ (ph_one (by kernel_rfl) hS1') ?_
     clear hK K
     have V4 := tuck (VarAt.new w2 0 0 (.slice none 0 0))
     have HG4 : Hid (W0.heap.size ≤ w2.heap.size) := tuck hS1.size
     replace V5 := tuck (V5.out.below (below1 w2 (.cells #[.int .i64 0, .int .i64 0, .slice none 0 0] 29)))
     replace V7 := tuck (V7.out.below (below1 w2 (.cells #[.int .i64 0, .int .i64 0, .slice none 0 0] 29)))
     have N4 : Hid (g5 < w2.heap.size ∧ g7 < w2.heap.size) := tuck ⟨HL5.out, HL7.out⟩
     replace HL5 := tuck (Nat.lt_of_lt_of_le HL5.out (below1 w2 (.cells #[.int .i64 0, .int .i64 0, .slice none 0 0] 29)).size)
     replace HL7 := tuck (Nat.lt_of_lt_of_le HL7.out (below1 w2 (.cells #[.int .i64 0, .int .i64 0, .slice none 0 0] 29)).size)
     have HL4 : Hid (w2.heap.size < (w2.alloc (.cells #[.int .i64 0, .int .i64 0, .slice none 0 0] 29)).heap.size) := tuck V4.out.facts.1
     try simp only [Act.put, List.setIfInBounds_toArray, List.set_cons_zero, List.set_cons_succ]
     generalize (w2.alloc (.cells #[.int .i64 0, .int .i64 0, .slice none 0 0] 29)) = w3 at *
     generalize w2.heap.size = g4 at *
     replace hS1 := hS1'
     clear hS1'
     refine AnyTwo.step (i := 21) (o := ⟨some 6, _, _, _, _, _⟩) (by kernel_rfl) rfl (fun K hK => ?_)
     ·go_simp
      have hS1' := bAfter hS1 (below1 w3 (.cells #[.int .i64 0, .int .i64 0, .slice none 0 0] 29))
      refine hK.out _ _ (ph_one (by kernel_rfl) hS1') ?_
      clear hK K
      have V6 := tuck (VarAt.new w3 0 0 (.slice none 0 0))
      have HG6 : Hid (W0.heap.size ≤ w3.heap.size) := tuck hS1.size
      replace V5 := tuck (V5.out.below (below1 w3 (.cells #[.int .i64 0, .int .i64 0, .slice none 0 0] 29)))
      replace V7 := tuck (V7.out.below (below1 w3 (.cells #[.int .i64 0, .int .i64 0, .slice none 0 0] 29)))
      replace V4 := tuck (V4.out.below (below1 w3 (.cells #[.int .i64 0, .int .i64 0, .slice none 0 0] 29)))
      have N6 : Hid (g5 < w3.heap.size ∧ g7 < w3.heap.size ∧ g4 < w3.heap.size) := tuck ⟨HL5.out, HL7.out, HL4.out⟩
      replace HL5 := tuck (Nat.lt_of_lt_of_le HL5.out (below1 w3 (.cells #[.int .i64 0, .int .i64 0, .slice none 0 0] 29)).size)
      replace HL7 := tuck (Nat.lt_of_lt_of_le HL7.out (below1 w3 (.cells #[.int .i64 0, .int .i64 0, .slice none 0 0] 29)).size)
      replace HL4 := tuck (Nat.lt_of_lt_of_le HL4.out (below1 w3 (.cells #[.int .i64 0, .int .i64 0, .slice none 0 0] 29)).size)
      have HL6 : Hid (w3.heap.size < (w3.alloc (.cells #[.int .i64 0, .int .i64 0, .slice none 0 0] 29)).heap.size) := tuck V6.out.facts.1
      try simp only [Act.put, List.setIfInBounds_toArray, List.set_cons_zero, List.set_cons_succ]
      generalize (w3.alloc (.cells #[.int .i64 0, .int .i64 0, .slice none 0 0] 29)) = w4 at *
      generalize w3.heap.size = g6 at *
      replace hS1 := hS1'
      clear hS1'
      have q57 : g5 ≠ g7 := Nat.ne_of_lt (N7.out)
      have q75 : g7 ≠ g5 := Ne.symm q57
      have q54 : g5 ≠ g4 := Nat.ne_of_lt (N4.out.1)
      have q45 : g4 ≠ g5 := Ne.symm q54
      have q74 : g7 ≠ g4 := Nat.ne_of_lt (N4.out.2)
      have q47 : g4 ≠ g7 := Ne.symm q74
      have q56 : g5 ≠ g6 := Nat.ne_of_lt (N6.out.1)
      have q65 : g6 ≠ g5 := Ne.symm q56
      have q76 : g7 ≠ g6 := Nat.ne_of_lt (N6.out.2.1)
      have q67 : g6 ≠ g7 := Ne.symm q76
      have q46 : g4 ≠ g6 := Nat.ne_of_lt (N6.out.2.2)
      have q64 : g6 ≠ g4 := Ne.symm q46
      obtain ⟨z4, f0, f1, f2, ff⟩ := V4.out.facts
      refine AnyTwo.step (i := 23) (o := ⟨none, _, _, _, _, _⟩) (by kernel_rfl) rfl (fun K hK => ?_)
      go_simp
      have hS1' := bSet3 hS1 HG4.out 0 1 2 (.int .i64 P.kind) (.int .i64 P.num) (.slice a0 P.kids.length n0)
      refine hK.out _ _ (ph_one (by kernel_rfl) hS1') ?_
      clear hK K f0 f1 f2 ff
      have V4' : Hid (VarAt g4 P.kind P.num (.slice a0 P.kids.length n0) (((w4.setCell ⟨g4, 0, none⟩ (.int .i64 P.kind)).setCell ⟨g4, 1, none⟩ (.int .i64 P.num)).setCell ⟨g4, 2, none⟩ (.slice a0 P.kids.length n0))) := tuck V4.out.set
      replace V5 := tuck (V5.out.far3 q54 0 1 2 (.int .i64 P.kind) (.int .i64 P.num) (.slice a0 P.kids.length n0))
      replace V6 := tuck (V6.out.far3 q64 0 1 2 (.int .i64 P.kind) (.int .i64 P.num) (.slice a0 P.kids.length n0))
      replace V7 := tuck (V7.out.far3 q74 0 1 2 (.int .i64 P.kind) (.int .i64 P.num) (.slice a0 P.kids.length n0))
      clear V4
      generalize (((w4.setCell ⟨g4, 0, none⟩ (.int .i64 P.kind)).setCell ⟨g4, 1, none⟩ (.int .i64 P.num)).setCell ⟨g4, 2, none⟩ (.slice a0 P.kids.length n0)) = v4 at *
      replace hS1 := hS1'
      clear hS1'
      obtain ⟨z5, f0, f1, f2, ff⟩ := V5.out.facts
      refine AnyTwo.step (i := 24) (o := ⟨none, _, _, _, _, _⟩) (by kernel_rfl) rfl (fun K hK => ?_)
      go_simp
      have hS1' := bSet3 hS1 HG5.out 0 1 2 (.int .i64 Z.kind) (.int .i64 Z.num) (.slice a1 Z.kids.length n1)
      refine hK.out _ _ (ph_one (by kernel_rfl) hS1') ?_
      clear hK K f0 f1 f2 ff
      replace V4' := tuck (V4'.out.far3 q45 0 1 2 (.int .i64 Z.kind) (.int .i64 Z.num) (.slice a1 Z.kids.length n1))
      have V5' : Hid (VarAt g5 Z.kind Z.num (.slice a1 Z.kids.length n1) (((v4.setCell ⟨g5, 0, none⟩ (.int .i64 Z.kind)).setCell ⟨g5, 1, none⟩ (.int .i64 Z.num)).setCell ⟨g5, 2, none⟩ (.slice a1 Z.kids.length n1))) := tuck V5.out.set
      replace V6 := tuck (V6.out.far3 q65 0 1 2 (.int .i64 Z.kind) (.int .i64 Z.num) (.slice a1 Z.kids.length n1))
      replace V7 := tuck (V7.out.far3 q75 0 1 2 (.int .i64 Z.kind) (.int .i64 Z.num) (.slice a1 Z.kids.length n1))
      clear V5
      generalize (((v4.setCell ⟨g5, 0, none⟩ (.int .i64 Z.kind)).setCell ⟨g5, 1, none⟩ (.int .i64 Z.num)).setCell ⟨g5, 2, none⟩ (.slice a1 Z.kids.length n1)) = v5 at *
      replace hS1 := hS1'
      clear hS1'
      obtain ⟨z6, f0, f1, f2, ff⟩ := V6.out.facts
      refine AnyTwo.step (i := 25) (o := ⟨none, _, _, _, _, _⟩) (by kernel_rfl) rfl (fun K hK => ?_)
      go_simp
      have hS1' := bSet3 hS1 HG6.out 0 1 2 (.int .i64 S.kind) (.int .i64 S.num) (.slice a2 S.kids.length n2)
      refine hK.out _ _ (ph_one (by kernel_rfl) hS1') ?_
      clear hK K f0 f1 f2 ff
      replace V4' := tuck (V4'.out.far3 q46 0 1 2 (.int .i64 S.kind) (.int .i64 S.num) (.slice a2 S.kids.length n2))
      replace V5' := tuck (V5'.out.far3 q56 0 1 2 (.int .i64 S.kind) (.int .i64 S.num) (.slice a2 S.kids.length n2))
      have V6' : Hid (VarAt g6 S.kind S.num (.slice a2 S.kids.length n2) (((v5.setCell ⟨g6, 0, none⟩ (.int .i64 S.kind)).setCell ⟨g6, 1, none⟩ (.int .i64 S.num)).setCell ⟨g6, 2, none⟩ (.slice a2 S.kids.length n2))) := tuck V6.out.set
      replace V7 := tuck (V7.out.far3 q76 0 1 2 (.int .i64 S.kind) (.int .i64 S.num) (.slice a2 S.kids.length n2))
      clear V6
      generalize (((v5.setCell ⟨g6, 0, none⟩ (.int .i64 S.kind)).setCell ⟨g6, 1, none⟩ (.int .i64 S.num)).setCell ⟨g6, 2, none⟩ (.slice a2 S.kids.length n2)) = v6 at *
      replace hS1 := hS1'
      clear hS1'
      obtain ⟨z7, f0, f1, f2, ff⟩ := V7.out.facts
      refine AnyTwo.step (i := 26) (o := ⟨none, _, _, _, _, _⟩) (by kernel_rfl) rfl (fun K hK => ?_)
      go_simp
      have hS1' := bSet3 hS1 HG7.out 0 1 2 (.int .i64 B.kind) (.int .i64 B.num) (.slice a4 B.kids.length n4)
      refine hK.out _ _ (ph_end (by kernel_rfl) hS1') ?_
      clear hK K f0 f1 f2 ff
      replace V4' := tuck (V4'.out.far3 q47 0 1 2 (.int .i64 B.kind) (.int .i64 B.num) (.slice a4 B.kids.length n4))
      replace V5' := tuck (V5'.out.far3 q57 0 1 2 (.int .i64 B.kind) (.int .i64 B.num) (.slice a4 B.kids.length n4))
      replace V6' := tuck (V6'.out.far3 q67 0 1 2 (.int .i64 B.kind) (.int .i64 B.num) (.slice a4 B.kids.length n4))
      have V7' : Hid (VarAt g7 B.kind B.num (.slice a4 B.kids.length n4) (((v6.setCell ⟨g7, 0, none⟩ (.int .i64 B.kind)).setCell ⟨g7, 1, none⟩ (.int .i64 B.num)).setCell ⟨g7, 2, none⟩ (.slice a4 B.kids.length n4))) := tuck V7.out.set
      clear V7
      generalize (((v6.setCell ⟨g7, 0, none⟩ (.int .i64 B.kind)).setCell ⟨g7, 1, none⟩ (.int .i64 B.num)).setCell ⟨g7, 2, none⟩ (.slice a4 B.kids.length n4)) = v7 at *
      replace hS1 := hS1'
      clear hS1'
      refine AnyTwo.done (by kernel_rfl) ?_ _
      go_wp2_with fail
      go_meet
      exact ⟨g4, g5, g6, g7, rfl, rfl, rfl, rfl, hS1, V4'.out, V5'.out, V6'.out, V7'.out⟩
    ·go_simp
     have hS1' := bAfter hS1 (below1 w2 (.cells #[.int .i64 0, .int .i64 0, .slice none 0 0] 29))
     refine hK.out _ _ (ph_one (by kernel_rfl) hS1') ?_
     clear hK K
     have V6 := tuck (VarAt.new w2 0 0 (.slice none 0 0))
     have HG6 : Hid (W0.heap.size ≤ w2.heap.size) := tuck hS1.size
     replace V5 := tuck (V5.out.below (below1 w2 (.cells #[.int .i64 0, .int .i64 0, .slice none 0 0] 29)))
     replace V7 := tuck (V7.out.below (below1 w2 (.cells #[.int .i64 0, .int .i64 0, .slice none 0 0] 29)))
     have N6 : Hid (g5 < w2.heap.size ∧ g7 < w2.heap.size) := tuck ⟨HL5.out, HL7.out⟩
     replace HL5 := tuck (Nat.lt_of_lt_of_le HL5.out (below1 w2 (.cells #[.int .i64 0, .int .i64 0, .slice none 0 0] 29)).size)
     replace HL7 := tuck (Nat.lt_of_lt_of_le HL7.out (below1 w2 (.cells #[.int .i64 0, .int .i64 0, .slice none 0 0] 29)).size)
     have HL6 : Hid (w2.heap.size < (w2.alloc (.cells #[.int .i64 0, .int .i64 0, .slice none 0 0] 29)).heap.size) := tuck V6.out.facts.1
     try simp only [Act.put, List.setIfInBounds_toArray, List.set_cons_zero, List.set_cons_succ]
     generalize (w2.alloc (.cells #[.int .i64 0, .int .i64 0, .slice none 0 0] 29)) = w3 at *
     generalize w2.heap.size = g6 at *
     replace hS1 := hS1'
     clear hS1'
     refine AnyTwo.step (i := 19) (o := ⟨some 4, _, _, _, _, _⟩) (by kernel_rfl) rfl (fun K hK => ?_)
     ·go_simp
      have hS1' := bAfter hS1 (below1 w3 (.cells #[.int .i64 0, .int .i64 0, .slice none 0 0] 29))
      refine hK.out _ _ (ph_one (by kernel_rfl) hS1') ?_
      clear hK K
      have V4 := tuck (VarAt.new w3 0 0 (.slice none 0 0))
      have HG4 : Hid (W0.heap.size ≤ w3.heap.size) := tuck hS1.size
      replace V5 := tuck (V5.out.below (below1 w3 (.cells #[.int .i64 0, .int .i64 0, .slice none 0 0] 29)))
      replace V7 := tuck (V7.out.below (below1 w3 (.cells #[.int .i64 0, .int .i64 0, .slice none 0 0] 29)))
      replace V6 := tuck (V6.out.below (below1 w3 (.cells #[.int .i64 0, .int .i64 0, .slice none 0 0] 29)))
      have N4 : Hid (g5 < w3.heap.size ∧ g7 < w3.heap.size ∧ g6 < w3.heap.size) := tuck ⟨HL5.out, HL7.out, HL6.out⟩
      replace HL5 := tuck (Nat.lt_of_lt_of_le HL5.out (below1 w3 (.cells #[.int .i64 0, .int .i64 0, .slice none 0 0] 29)).size)
      replace HL7 := tuck (Nat.lt_of_lt_of_le HL7.out (below1 w3 (.cells #[.int .i64 0, .int .i64 0, .slice none 0 0] 29)).size)
      replace HL6 := tuck (Nat.lt_of_lt_of_le HL6.out (below1 w3 (.cells #[.int .i64 0, .int .i64 0, .slice none 0 0] 29)).size)
      have HL4 : Hid (w3.heap.size < (w3.alloc (.cells #[.int .i64 0, .int .i64 0, .slice none 0 0] 29)).heap.size) := tuck V4.out.facts.1
      try simp only [Act.put, List.setIfInBounds_toArray, List.set_cons_zero, List.set_cons_succ]
      generalize (w3.alloc (.cells #[.int .i64 0, .int .i64 0, .slice none 0 0] 29)) = w4 at *
      generalize w3.heap.size = g4 at *
      replace hS1 := hS1'
      clear hS1'
      have q57 : g5 ≠ g7 := Nat.ne_of_lt (N7.out)
      have q75 : g7 ≠ g5 := Ne.symm q57
      have q56 : g5 ≠ g6 := Nat.ne_of_lt (N6.out.1)
      have q65 : g6 ≠ g5 := Ne.symm q56
      have q76 : g7 ≠ g6 := Nat.ne_of_lt (N6.out.2)
      have q67 : g6 ≠ g7 := Ne.symm q76
      have q54 : g5 ≠ g4 := Nat.ne_of_lt (N4.out.1)
      have q45 : g4 ≠ g5 := Ne.symm q54
      have q74 : g7 ≠ g4 := Nat.ne_of_lt (N4.out.2.1)
      have q47 : g4 ≠ g7 := Ne.symm q74
      have q64 : g6 ≠ g4 := Nat.ne_of_lt (N4.out.2.2)
      have q46 : g4 ≠ g6 := Ne.symm q64
      obtain ⟨z4, f0, f1, f2, ff⟩ := V4.out.facts
      refine AnyTwo.step (i := 23) (o := ⟨none, _, _, _, _, _⟩) (by kernel_rfl) rfl (fun K hK => ?_)
      go_simp
      have hS1' := bSet3 hS1 HG4.out 0 1 2 (.int .i64 P.kind) (.int .i64 P.num) (.slice a0 P.kids.length n0)
      refine hK.out _ _ (ph_one (by kernel_rfl) hS1') ?_
      clear hK K f0 f1 f2 ff
      have V4' : Hid (VarAt g4 P.kind P.num (.slice a0 P.kids.length n0) (((w4.setCell ⟨g4, 0, none⟩ (.int .i64 P.kind)).setCell ⟨g4, 1, none⟩ (.int .i64 P.num)).setCell ⟨g4, 2, none⟩ (.slice a0 P.kids.length n0))) := tuck V4.out.set
      replace V5 := tuck (V5.out.far3 q54 0 1 2 (.int .i64 P.kind) (.int .i64 P.num) (.slice a0 P.kids.length n0))
      replace V6 := tuck (V6.out.far3 q64 0 1 2 (.int .i64 P.kind) (.int .i64 P.num) (.slice a0 P.kids.length n0))
      replace V7 := tuck (V7.out.far3 q74 0 1 2 (.int .i64 P.kind) (.int .i64 P.num) (.slice a0 P.kids.length n0))
      clear V4
      generalize (((w4.setCell ⟨g4, 0, none⟩ (.int .i64 P.kind)).setCell ⟨g4, 1, none⟩ (.int .i64 P.num)).setCell ⟨g4, 2, none⟩ (.slice a0 P.kids.length n0)) = v4 at *
      replace hS1 := hS1'
      clear hS1'
      obtain ⟨z5, f0, f1, f2, ff⟩ := V5.out.facts
      refine AnyTwo.step (i := 24) (o := ⟨none, _, _, _, _, _⟩) (by kernel_rfl) rfl (fun K hK => ?_)
      go_simp
      have hS1' := bSet3 hS1 HG5.out 0 1 2 (.int .i64 Z.kind) (.int .i64 Z.num) (.slice a1 Z.kids.length n1)
      refine hK.out _ _ (ph_one (by kernel_rfl) hS1') ?_
      clear hK K f0 f1 f2 ff
      replace V4' := tuck (V4'.out.far3 q45 0 1 2 (.int .i64 Z.kind) (.int .i64 Z.num) (.slice a1 Z.kids.length n1))
      have V5' : Hid (VarAt g5 Z.kind Z.num (.slice a1 Z.kids.length n1) (((v4.setCell ⟨g5, 0, none⟩ (.int .i64 Z.kind)).setCell ⟨g5, 1, none⟩ (.int .i64 Z.num)).setCell ⟨g5, 2, none⟩ (.slice a1 Z.kids.length n1))) := tuck V5.out.set
      replace V6 := tuck (V6.out.far3 q65 0 1 2 (.int .i64 Z.kind) (.int .i64 Z.num) (.slice a1 Z.kids.length n1))
      replace V7 := tuck (V7.out.far3 q75 0 1 2 (.int .i64 Z.kind) (.int .i64 Z.num) (.slice a1 Z.kids.length n1))
      clear V5
      generalize (((v4.setCell ⟨g5, 0, none⟩ (.int .i64 Z.kind)).setCell ⟨g5, 1, none⟩ (.int .i64 Z.num)).setCell ⟨g5, 2, none⟩ (.slice a1 Z.kids.length n1)) = v5 at *
      replace hS1 := hS1'
      clear hS1'
      obtain ⟨z6, f0, f1, f2, ff⟩ := V6.out.facts
      refine AnyTwo.step (i := 25) (o := ⟨none, _, _, _, _, _⟩) (by kernel_rfl) rfl (fun K hK => ?_)
      go_simp
      have hS1' := bSet3 hS1 HG6.out 0 1 2 (.int .i64 S.kind) (.int .i64 S.num) (.slice a2 S.kids.length n2)
      refine hK.out _ _ (ph_one (by kernel_rfl) hS1') ?_
      clear hK K f0 f1 f2 ff
      replace V4' := tuck (V4'.out.far3 q46 0 1 2 (.int .i64 S.kind) (.int .i64 S.num) (.slice a2 S.kids.length n2))
      replace V5' := tuck (V5'.out.far3 q56 0 1 2 (.int .i64 S.kind) (.int .i64 S.num) (.slice a2 S.kids.length n2))
      have V6' : Hid (VarAt g6 S.kind S.num (.slice a2 S.kids.length n2) (((v5.setCell ⟨g6, 0, none⟩ (.int .i64 S.kind)).setCell ⟨g6, 1, none⟩ (.int .i64 S.num)).setCell ⟨g6, 2, none⟩ (.slice a2 S.kids.length n2))) := tuck V6.out.set
      replace V7 := tuck (V7.out.far3 q76 0 1 2 (.int .i64 S.kind) (.int .i64 S.num) (.slice a2 S.kids.length n2))
      clear V6
      generalize (((v5.setCell ⟨g6, 0, none⟩ (.int .i64 S.kind)).setCell ⟨g6, 1, none⟩ (.int .i64 S.num)).setCell ⟨g6, 2, none⟩ (.slice a2 S.kids.length n2)) = v6 at *
      replace hS1 := hS1'
      clear hS1'
      obtain ⟨z7, f0, f1, f2, ff⟩ := V7.out.facts
      refine AnyTwo.step (i := 26) (o := ⟨none, _, _, _, _, _⟩) (by kernel_rfl) rfl (fun K hK => ?_)
      go_simp
      have hS1' := bSet3 hS1 HG7.out 0 1 2 (.int .i64 B.kind) (.int .i64 B.num) (.slice a4 B.kids.length n4)
      refine hK.out _ _ (ph_end (by kernel_rfl) hS1') ?_
      clear hK K f0 f1 f2 ff
      replace V4' := tuck (V4'.out.far3 q47 0 1 2 (.int .i64 B.kind) (.int .i64 B.num) (.slice a4 B.kids.length n4))
      replace V5' := tuck (V5'.out.far3 q57 0 1 2 (.int .i64 B.kind) (.int .i64 B.num) (.slice a4 B.kids.length n4))
      replace V6' := tuck (V6'.out.far3 q67 0 1 2 (.int .i64 B.kind) (.int .i64 B.num) (.slice a4 B.kids.length n4))
      have V7' : Hid (VarAt g7 B.kind B.num (.slice a4 B.kids.length n4) (((v6.setCell ⟨g7, 0, none⟩ (.int .i64 B.kind)).setCell ⟨g7, 1, none⟩ (.int .i64 B.num)).setCell ⟨g7, 2, none⟩ (.slice a4 B.kids.length n4))) := tuck V7.out.set
      clear V7
      generalize (((v6.setCell ⟨g7, 0, none⟩ (.int .i64 B.kind)).setCell ⟨g7, 1, none⟩ (.int .i64 B.num)).setCell ⟨g7, 2, none⟩ (.slice a4 B.kids.length n4)) = v7 at *
      replace hS1 := hS1'
      clear hS1'
      refine AnyTwo.done (by kernel_rfl) ?_ _
      go_wp2_with fail
      go_meet
      exact ⟨g4, g5, g6, g7, rfl, rfl, rfl, rfl, hS1, V4'.out, V5'.out, V6'.out, V7'.out⟩
  ·go_simp
   have hS1' := bAfter hS1 (below1 w0 (.cells #[.int .i64 0, .int .i64 0, .slice none 0 0] 29))
   refine hK.out _ _ (ph_one (by kernel_rfl) hS1') ?_
   clear hK K
   have V6 := tuck (VarAt.new w0 0 0 (.slice none 0 0))
   have HG6 : Hid (W0.heap.size ≤ w0.heap.size) := tuck hS1.size
   have HL6 : Hid (w0.heap.size < (w0.alloc (.cells #[.int .i64 0, .int .i64 0, .slice none 0 0] 29)).heap.size) := tuck V6.out.facts.1
   try simp only [Act.put, List.setIfInBounds_toArray, List.set_cons_zero, List.set_cons_succ]
   generalize (w0.alloc (.cells #[.int .i64 0, .int .i64 0, .slice none 0 0] 29)) = w1 at *
   generalize w0.heap.size = g6 at *
   replace hS1 := hS1'
   clear hS1'
   refine AnyTwo.fork3 (i0 := 19) (o0 := ⟨some 4, _, _, _, _, _⟩) (i1 := 20) (o1 := ⟨some 5, _, _, _, _, _⟩) (i2 := 22) (o2 := ⟨some 7, _, _, _, _, _⟩) (by kernel_rfl) rfl rfl rfl (fun K hK => ?_) (fun K hK => ?_) (fun K hK => ?_)
   ·go_simp
    have hS1' := bAfter hS1 (below1 w1 (.cells #[.int .i64 0, .int .i64 0, .slice none 0 0] 29))
    refine hK.out _ _ (ph_one (by kernel_rfl) hS1') ?_
    clear hK K
    have V4 := tuck (VarAt.new w1 0 0 (.slice none 0 0))
    have HG4 : Hid (W0.heap.size ≤ w1.heap.size) := tuck hS1.size
    replace V6 := tuck (V6.out.below (below1 w1 (.cells #[.int .i64 0, .int .i64 0, .slice none 0 0] 29)))
    have N4 : Hid (g6 < w1.heap.size) := tuck HL6.out
    replace HL6 := tuck (Nat.lt_of_lt_of_le HL6.out (below1 w1 (.cells #[.int .i64 0, .int .i64 0, .slice none 0 0] 29)).size)
    have HL4 : Hid (w1.heap.size < (w1.alloc (.cells #[.int .i64 0, .int .i64 0, .slice none 0 0] 29)).heap.size) := tuck V4.out.facts.1
    try simp only [Act.put, List.setIfInBounds_toArray, List.set_cons_zero, List.set_cons_succ]
    generalize (w1.alloc (.cells #[.int .i64 0, .int .i64 0, .slice none 0 0] 29)) = w2 at *
    generalize w1.heap.size = g4 at *
    replace hS1 := hS1'
    clear hS1'
    refine AnyTwo.fork (i := 20) (j := 22) (o := ⟨some 5, _, _, _, _, _⟩) (o' := ⟨some 7, _, _, _, _, _⟩) (by kernel_rfl) rfl rfl (fun K hK => ?_) (fun K hK => ?_)
    ·go_simp
     have hS1' := bAfter hS1 (below1 w2 (.cells #[.int .i64 0, .int .i64 0, .slice none 0 0] 29))
     refine hK.out _ _ (ph_one (by kernel_rfl) hS1') ?_
     clear hK K
     have V5 := tuck (VarAt.new w2 0 0 (.slice none 0 0))
     have HG5 : Hid (W0.heap.size ≤ w2.heap.size) := tuck hS1.size
     replace V6 := tuck (V6.out.below (below1 w2 (.cells #[.int .i64 0, .int .i64 0, .slice none 0 0] 29)))
     replace V4 := tuck (V4.out.below (below1 w2 (.cells #[.int .i64 0, .int .i64 0, .slice none 0 0] 29)))
     have N5 : Hid (g6 < w2.heap.size ∧ g4 < w2.heap.size) := tuck ⟨HL6.out, HL4.out⟩
     replace HL6 := tuck (Nat.lt_of_lt_of_le HL6.out (below1 w2 (.cells #[.int .i64 0, .int .i64 0, .slice none 0 0] 29)).size)
     replace HL4 := tuck (Nat.lt_of_lt_of_le HL4.out (below1 w2 (.cells #[.int .i64 0, .int .i64 0, .slice none 0 0] 29)).size)
     have HL5 : Hid (w2.heap.size < (w2.alloc (.cells #[.int .i64 0, .int .i64 0, .slice none 0 0] 29)).heap.size) := tuck V5.out.facts.1
     try simp only [Act.put, List.setIfInBounds_toArray, List.set_cons_zero, List.set_cons_succ]
     generalize (w2.alloc (.cells #[.int .i64 0, .int .i64 0, .slice none 0 0] 29)) = w3 at *
     generalize w2.heap.size = g5 at *
     replace hS1 := hS1'
     clear hS1'
     refine AnyTwo.step (i := 22) (o := ⟨some 7, _, _, _, _, _⟩) (by kernel_rfl) rfl (fun K hK => ?_)
     ·go_simp
      have hS1' := bAfter hS1 (below1 w3 (.cells #[.int .i64 0, .int .i64 0, .slice none 0 0] 29))
      refine hK.out _ _ (ph_one (by kernel_rfl) hS1') ?_
      clear hK K
      have V7 := tuck (VarAt.new w3 0 0 (.slice none 0 0))
      have HG7 : Hid (W0.heap.size ≤ w3.heap.size) := tuck hS1.size
      replace V6 := tuck (V6.out.below (below1 w3 (.cells #[.int .i64 0, .int .i64 0, .slice none 0 0] 29)))
      replace V4 := tuck (V4.out.below (below1 w3 (.cells #[.int .i64 0, .int .i64 0, .slice none 0 0] 29)))
      replace V5 := tuck (V5.out.below (below1 w3 (.cells #[.int .i64 0, .int .i64 0, .slice none 0 0] 29)))
      have N7 : Hid (g6 < w3.heap.size ∧ g4 < w3.heap.size ∧ g5 < w3.heap.size) := tuck ⟨HL6.out, HL4.out, HL5.out⟩
      replace HL6 := tuck (Nat.lt_of_lt_of_le HL6.out (below1 w3 (.cells #[.int .i64 0, .int .i64 0, .slice none 0 0] 29)).size)
      replace HL4 := tuck (Nat.lt_of_lt_of_le HL4.out (below1 w3 (.cells #[.int .i64 0, .int .i64 0, .slice none 0 0] 29)).size)
      replace HL5 := tuck (Nat.lt_of_lt_of_le HL5.out (below1 w3 (.cells #[.int .i64 0, .int .i64 0, .slice none 0 0] 29)).size)
      have HL7 : Hid (w3.heap.size < (w3.alloc (.cells #[.int .i64 0, .int .i64 0, .slice none 0 0] 29)).heap.size) := tuck V7.out.facts.1
      try simp only [Act.put, List.setIfInBounds_toArray, List.set_cons_zero, List.set_cons_succ]
      generalize (w3.alloc (.cells #[.int .i64 0, .int .i64 0, .slice none 0 0] 29)) = w4 at *
      generalize w3.heap.size = g7 at *
      replace hS1 := hS1'
      clear hS1'
      have q64 : g6 ≠ g4 := Nat.ne_of_lt (N4.out)
      have q46 : g4 ≠ g6 := Ne.symm q64
      have q65 : g6 ≠ g5 := Nat.ne_of_lt (N5.out.1)
      have q56 : g5 ≠ g6 := Ne.symm q65
      have q45 : g4 ≠ g5 := Nat.ne_of_lt (N5.out.2)
      have q54 : g5 ≠ g4 := Ne.symm q45
      have q67 : g6 ≠ g7 := Nat.ne_of_lt (N7.out.1)
      have q76 : g7 ≠ g6 := Ne.symm q67
      have q47 : g4 ≠ g7 := Nat.ne_of_lt (N7.out.2.1)
      have q74 : g7 ≠ g4 := Ne.symm q47
      have q57 : g5 ≠ g7 := Nat.ne_of_lt (N7.out.2.2)
      have q75 : g7 ≠ g5 := Ne.symm q57
      obtain ⟨z4, f0, f1, f2, ff⟩ := V4.out.facts
      refine AnyTwo.step (i := 23) (o := ⟨none, _, _, _, _, _⟩) (by kernel_rfl) rfl (fun K hK => ?_)
      go_simp
      have hS1' := bSet3 hS1 HG4.out 0 1 2 (.int .i64 P.kind) (.int .i64 P.num) (.slice a0 P.kids.length n0)
      refine hK.out _ _ (ph_one (by kernel_rfl) hS1') ?_
      clear hK K f0 f1 f2 ff
      have V4' : Hid (VarAt g4 P.kind P.num (.slice a0 P.kids.length n0) (((w4.setCell ⟨g4, 0, none⟩ (.int .i64 P.kind)).setCell ⟨g4, 1, none⟩ (.int .i64 P.num)).setCell ⟨g4, 2, none⟩ (.slice a0 P.kids.length n0))) := tuck V4.out.set
      replace V5 := tuck (V5.out.far3 q54 0 1 2 (.int .i64 P.kind) (.int .i64 P.num) (.slice a0 P.kids.length n0))
      replace V6 := tuck (V6.out.far3 q64 0 1 2 (.int .i64 P.kind) (.int .i64 P.num) (.slice a0 P.kids.length n0))
      replace V7 := tuck (V7.out.far3 q74 0 1 2 (.int .i64 P.kind) (.int .i64 P.num) (.slice a0 P.kids.length n0))
      clear V4
      generalize (((w4.setCell ⟨g4, 0, none⟩ (.int .i64 P.kind)).setCell ⟨g4, 1, none⟩ (.int .i64 P.num)).setCell ⟨g4, 2, none⟩ (.slice a0 P.kids.length n0)) = v4 at *
      replace hS1 := hS1'
      clear hS1'
      obtain ⟨z5, f0, f1, f2, ff⟩ := V5.out.facts
      refine AnyTwo.step (i := 24) (o := ⟨none, _, _, _, _, _⟩) (by kernel_rfl) rfl (fun K hK => ?_)
      go_simp
      have hS1' := bSet3 hS1 HG5.out 0 1 2 (.int .i64 Z.kind) (.int .i64 Z.num) (.slice a1 Z.kids.length n1)
      refine hK.out _ _ (ph_one (by kernel_rfl) hS1') ?_
      clear hK K f0 f1 f2 ff
      replace V4' := tuck (V4'.out.far3 q45 0 1 2 (.int .i64 Z.kind) (.int .i64 Z.num) (.slice a1 Z.kids.length n1))
      have V5' : Hid (VarAt g5 Z.kind Z.num (.slice a1 Z.kids.length n1) (((v4.setCell ⟨g5, 0, none⟩ (.int .i64 Z.kind)).setCell ⟨g5, 1, none⟩ (.int .i64 Z.num)).setCell ⟨g5, 2, none⟩ (.slice a1 Z.kids.length n1))) := tuck V5.out.set
      replace V6 := tuck (V6.out.far3 q65 0 1 2 (.int .i64 Z.kind) (.int .i64 Z.num) (.slice a1 Z.kids.length n1))
      replace V7 := tuck (V7.out.far3 q75 0 1 2 (.int .i64 Z.kind) (.int .i64 Z.num) (.slice a1 Z.kids.length n1))
      clear V5
      generalize (((v4.setCell ⟨g5, 0, none⟩ (.int .i64 Z.kind)).setCell ⟨g5, 1, none⟩ (.int .i64 Z.num)).setCell ⟨g5, 2, none⟩ (.slice a1 Z.kids.length n1)) = v5 at *
      replace hS1 := hS1'
      clear hS1'
      obtain ⟨z6, f0, f1, f2, ff⟩ := V6.out.facts
      refine AnyTwo.step (i := 25) (o := ⟨none, _, _, _, _, _⟩) (by kernel_rfl) rfl (fun K hK => ?_)
      go_simp
      have hS1' := bSet3 hS1 HG6.out 0 1 2 (.int .i64 S.kind) (.int .i64 S.num) (.slice a2 S.kids.length n2)
      refine hK.out _ _ (ph_one (by kernel_rfl) hS1') ?_
      clear hK K f0 f1 f2 ff
      replace V4' := tuck (V4'.out.far3 q46 0 1 2 (.int .i64 S.kind) (.int .i64 S.num) (.slice a2 S.kids.length n2))
      replace V5' := tuck (V5'.out.far3 q56 0 1 2 (.int .i64 S.kind) (.int .i64 S.num) (.slice a2 S.kids.length n2))
      have V6' : Hid (VarAt g6 S.kind S.num (.slice a2 S.kids.length n2) (((v5.setCell ⟨g6, 0, none⟩ (.int .i64 S.kind)).setCell ⟨g6, 1, none⟩ (.int .i64 S.num)).setCell ⟨g6, 2, none⟩ (.slice a2 S.kids.length n2))) := tuck V6.out.set
      replace V7 := tuck (V7.out.far3 q76 0 1 2 (.int .i64 S.kind) (.int .i64 S.num) (.slice a2 S.kids.length n2))
      clear V6
      generalize (((v5.setCell ⟨g6, 0, none⟩ (.int .i64 S.kind)).setCell ⟨g6, 1, none⟩ (.int .i64 S.num)).setCell ⟨g6, 2, none⟩ (.slice a2 S.kids.length n2)) = v6 at *
      replace hS1 := hS1'
      clear hS1'
      obtain ⟨z7, f0, f1, f2, ff⟩ := V7.out.facts
      refine AnyTwo.step (i := 26) (o := ⟨none, _, _, _, _, _⟩) (by kernel_rfl) rfl (fun K hK => ?_)
      go_simp
      have hS1' := bSet3 hS1 HG7.out 0 1 2 (.int .i64 B.kind) (.int .i64 B.num) (.slice a4 B.kids.length n4)
      refine hK.out _ _ (ph_end (by kernel_rfl) hS1') ?_
      clear hK K f0 f1 f2 ff
      replace V4' := tuck (V4'.out.far3 q47 0 1 2 (.int .i64 B.kind) (.int .i64 B.num) (.slice a4 B.kids.length n4))
      replace V5' := tuck (V5'.out.far3 q57 0 1 2 (.int .i64 B.kind) (.int .i64 B.num) (.slice a4 B.kids.length n4))
      replace V6' := tuck (V6'.out.far3 q67 0 1 2 (.int .i64 B.kind) (.int .i64 B.num) (.slice a4 B.kids.length n4))
      have V7' : Hid (VarAt g7 B.kind B.num (.slice a4 B.kids.length n4) (((v6.setCell ⟨g7, 0, none⟩ (.int .i64 B.kind)).setCell ⟨g7, 1, none⟩ (.int .i64 B.num)).setCell ⟨g7, 2, none⟩ (.slice a4 B.kids.length n4))) := tuck V7.out.set
      clear V7
      generalize (((v6.setCell ⟨g7, 0, none⟩ (.int .i64 B.kind)).setCell ⟨g7, 1, none⟩ (.int .i64 B.num)).setCell ⟨g7, 2, none⟩ (.slice a4 B.kids.length n4)) = v7 at *
      replace hS1 := hS1'
      clear hS1'
      refine AnyTwo.done (by kernel_rfl) ?_ _
      go_wp2_with fail
      go_meet
      exact ⟨g4, g5, g6, g7, rfl, rfl, rfl, rfl, hS1, V4'.out, V5'.out, V6'.out, V7'.out⟩
    ·go_simp
     have hS1' := bAfter hS1 (below1 w2 (.cells #[.int .i64 0, .int .i64 0, .slice none 0 0] 29))
     refine hK.out _ _ (ph_one (by kernel_rfl) hS1') ?_
     clear hK K
     have V7 := tuck (VarAt.new w2 0 0 (.slice none 0 0))
     have HG7 : Hid (W0.heap.size ≤ w2.heap.size) := tuck hS1.size
     replace V6 := tuck (V6.out.below (below1 w2 (.cells #[.int .i64 0, .int .i64 0, .slice none 0 0] 29)))
     replace V4 := tuck (V4.out.below (below1 w2 (.cells #[.int .i64 0, .int .i64 0, .slice none 0 0] 29)))
     have N7 : Hid (g6 < w2.heap.size ∧ g4 < w2.heap.size) := tuck ⟨HL6.out, HL4.out⟩
     replace HL6 := tuck (Nat.lt_of_lt_of_le HL6.out (below1 w2 (.cells #[.int .i64 0, .int .i64 0, .slice none 0 0] 29)).size)
     replace HL4 := tuck (Nat.lt_of_lt_of_le HL4.out (below1 w2 (.cells #[.int .i64 0, .int .i64 0, .slice none 0 0] 29)).size)
     have HL7 : Hid (w2.heap.size < (w2.alloc (.cells #[.int .i64 0, .int .i64 0, .slice none 0 0] 29)).heap.size) := tuck V7.out.facts.1
     try simp only [Act.put, List.setIfInBounds_toArray, List.set_cons_zero, List.set_cons_succ]
     generalize (w2.alloc (.cells #[.int .i64 0, .int .i64 0, .slice none 0 0] 29)) = w3 at *
     generalize w2.heap.size = g7 at *
     replace hS1 := hS1'
     clear hS1'
     refine AnyTwo.step (i := 20) (o := ⟨some 5, _, _, _, _, _⟩) (by kernel_rfl) rfl (fun K hK => ?_)
     ·go_simp
      have hS1' := bAfter hS1 (below1 w3 (.cells #[.int .i64 0, .int .i64 0, .slice none 0 0] 29))
      refine hK.out _ _ (ph_one (by kernel_rfl) hS1') ?_
      clear hK K
      have V5 := tuck (VarAt.new w3 0 0 (.slice none 0 0))
      have HG5 : Hid (W0.heap.size ≤ w3.heap.size) := tuck hS1.size
      replace V6 := tuck (V6.out.below (below1 w3 (.cells #[.int .i64 0, .int .i64 0, .slice none 0 0] 29)))
      replace V4 := tuck (V4.out.below (below1 w3 (.cells #[.int .i64 0, .int .i64 0, .slice none 0 0] 29)))
      replace V7 := tuck (V7.out.below (below1 w3 (.cells #[.int .i64 0, .int .i64 0, .slice none 0 0] 29)))
      have N5 : Hid (g6 < w3.heap.size ∧ g4 < w3.heap.size ∧ g7 < w3.heap.size) := tuck ⟨HL6.out, HL4.out, HL7.out⟩
      replace HL6 := tuck (Nat.lt_of_lt_of_le HL6.out (below1 w3 (.cells #[.int .i64 0, .int .i64 0, .slice none 0 0] 29)).size)
      replace HL4 := tuck (Nat.lt_of_lt_of_le HL4.out (below1 w3 (.cells #[.int .i64 0, .int .i64 0, .slice none 0 0] 29)).size)
      replace HL7 := tuck (Nat.lt_of_lt_of_le HL7.out (below1 w3 (.cells #[.int .i64 0, .int .i64 0, .slice none 0 0] 29)).size)
      have HL5 : Hid (w3.heap.size < (w3.alloc (.cells #[.int .i64 0, .int .i64 0, .slice none 0 0] 29)).heap.size) := tuck V5.out.facts.1
      try simp only [Act.put, List.setIfInBounds_toArray, List.set_cons_zero, List.set_cons_succ]
      generalize (w3.alloc (.cells #[.int .i64 0, .int .i64 0, .slice none 0 0] 29)) = w4 at *
      generalize w3.heap.size = g5 at *
      replace hS1 := hS1'
      clear hS1'
      have q64 : g6 ≠ g4 := Nat.ne_of_lt (N4.out)
      have q46 : g4 ≠ g6 := Ne.symm q64
      have q67 : g6 ≠ g7 := Nat.ne_of_lt (N7.out.1)
      have q76 : g7 ≠ g6 := Ne.symm q67
      have q47 : g4 ≠ g7 := Nat.ne_of_lt (N7.out.2)
      have q74 : g7 ≠ g4 := Ne.symm q47
      have q65 : g6 ≠ g5 := Nat.ne_of_lt (N5.out.1)
      have q56 : g5 ≠ g6 := Ne.symm q65
      have q45 : g4 ≠ g5 := Nat.ne_of_lt (N5.out.2.1)
      have q54 : g5 ≠ g4 := Ne.symm q45
      have q75 : g7 ≠ g5 := Nat.ne_of_lt (N5.out.2.2)
      have q57 : g5 ≠ g7 := Ne.symm q75
      obtain ⟨z4, f0, f1, f2, ff⟩ := V4.out.facts
      refine AnyTwo.step (i := 23) (o := ⟨none, _, _, _, _, _⟩) (by kernel_rfl) rfl (fun K hK => ?_)
      go_simp
      have hS1' := bSet3 hS1 HG4.out 0 1 2 (.int .i64 P.kind) (.int .i64 P.num) (.slice a0 P.kids.length n0)
      refine hK.out _ _ (ph_one (by kernel_rfl) hS1') ?_
      clear hK K f0 f1 f2 ff
      have V4' : Hid (VarAt g4 P.kind P.num (.slice a0 P.kids.length n0) (((w4.setCell ⟨g4, 0, none⟩ (.int .i64 P.kind)).setCell ⟨g4, 1, none⟩ (.int .i64 P.num)).setCell ⟨g4, 2, none⟩ (.slice a0 P.kids.length n0))) := tuck V4.out.set
      replace V5 := tuck (V5.out.far3 q54 0 1 2 (.int .i64 P.kind) (.int .i64 P.num) (.slice a0 P.kids.length n0))
      replace V6 := tuck (V6.out.far3 q64 0 1 2 (.int .i64 P.kind) (.int .i64 P.num) (.slice a0 P.kids.length n0))
      replace V7 := tuck (V7.out.far3 q74 0 1 2 (.int .i64 P.kind) (.int .i64 P.num) (.slice a0 P.kids.length n0))
      clear V4
      generalize (((w4.setCell ⟨g4, 0, none⟩ (.int .i64 P.kind)).setCell ⟨g4, 1, none⟩ (.int .i64 P.num)).setCell ⟨g4, 2, none⟩ (.slice a0 P.kids.length n0)) = v4 at *
      replace hS1 := hS1'
      clear hS1'
      obtain ⟨z5, f0, f1, f2, ff⟩ := V5.out.facts
      refine AnyTwo.step (i := 24) (o := ⟨none, _, _, _, _, _⟩) (by kernel_rfl) rfl (fun K hK => ?_)
      go_simp
      have hS1' := bSet3 hS1 HG5.out 0 1 2 (.int .i64 Z.kind) (.int .i64 Z.num) (.slice a1 Z.kids.length n1)
      refine hK.out _ _ (ph_one (by kernel_rfl) hS1') ?_
      clear hK K f0 f1 f2 ff
      replace V4' := tuck (V4'.out.far3 q45 0 1 2 (.int .i64 Z.kind) (.int .i64 Z.num) (.slice a1 Z.kids.length n1))
      have V5' : Hid (VarAt g5 Z.kind Z.num (.slice a1 Z.kids.length n1) (((v4.setCell ⟨g5, 0, none⟩ (.int .i64 Z.kind)).setCell ⟨g5, 1, none⟩ (.int .i64 Z.num)).setCell ⟨g5, 2, none⟩ (.slice a1 Z.kids.length n1))) := tuck V5.out.set
      replace V6 := tuck (V6.out.far3 q65 0 1 2 (.int .i64 Z.kind) (.int .i64 Z.num) (.slice a1 Z.kids.length n1))
      replace V7 := tuck (V7.out.far3 q75 0 1 2 (.int .i64 Z.kind) (.int .i64 Z.num) (.slice a1 Z.kids.length n1))
      clear V5
      generalize (((v4.setCell ⟨g5, 0, none⟩ (.int .i64 Z.kind)).setCell ⟨g5, 1, none⟩ (.int .i64 Z.num)).setCell ⟨g5, 2, none⟩ (.slice a1 Z.kids.length n1)) = v5 at *
      replace hS1 := hS1'
      clear hS1'
      obtain ⟨z6, f0, f1, f2, ff⟩ := V6.out.facts
      refine AnyTwo.step (i := 25) (o := ⟨none, _, _, _, _, _⟩) (by kernel_rfl) rfl (fun K hK => ?_)
      go_simp
      have hS1' := bSet3 hS1 HG6.out 0 1 2 (.int .i64 S.kind) (.int .i64 S.num) (.slice a2 S.kids.length n2)
      refine hK.out _ _ (ph_one (by kernel_rfl) hS1') ?_
      clear hK K f0 f1 f2 ff
      replace V4' := tuck (V4'.out.far3 q46 0 1 2 (.int .i64 S.kind) (.int .i64 S.num) (.slice a2 S.kids.length n2))
      replace V5' := tuck (V5'.out.far3 q56 0 1 2 (.int .i64 S.kind) (.int .i64 S.num) (.slice a2 S.kids.length n2))
      have V6' : Hid (VarAt g6 S.kind S.num (.slice a2 S.kids.length n2) (((v5.setCell ⟨g6, 0, none⟩ (.int .i64 S.kind)).setCell ⟨g6, 1, none⟩ (.int .i64 S.num)).setCell ⟨g6, 2, none⟩ (.slice a2 S.kids.length n2))) := tuck V6.out.set
      replace V7 := tuck (V7.out.far3 q76 0 1 2 (.int .i64 S.kind) (.int .i64 S.num) (.slice a2 S.kids.length n2))
      clear V6
      generalize (((v5.setCell ⟨g6, 0, none⟩ (.int .i64 S.kind)).setCell ⟨g6, 1, none⟩ (.int .i64 S.num)).setCell ⟨g6, 2, none⟩ (.slice a2 S.kids.length n2)) = v6 at *
      replace hS1 := hS1'
      clear hS1'
      obtain ⟨z7, f0, f1, f2, ff⟩ := V7.out.facts
      refine AnyTwo.step (i := 26) (o := ⟨none, _, _, _, _, _⟩) (by kernel_rfl) rfl (fun K hK => ?_)
      go_simp
      have hS1' := bSet3 hS1 HG7.out 0 1 2 (.int .i64 B.kind) (.int .i64 B.num) (.slice a4 B.kids.length n4)
      refine hK.out _ _ (ph_end (by kernel_rfl) hS1') ?_
      clear hK K f0 f1 f2 ff
      replace V4' := tuck (V4'.out.far3 q47 0 1 2 (.int .i64 B.kind) (.int .i64 B.num) (.slice a4 B.kids.length n4))
      replace V5' := tuck (V5'.out.far3 q57 0 1 2 (.int .i64 B.kind) (.int .i64 B.num) (.slice a4 B.kids.length n4))
      replace V6' := tuck (V6'.out.far3 q67 0 1 2 (.int .i64 B.kind) (.int .i64 B.num) (.slice a4 B.kids.length n4))
      have V7' : Hid (VarAt g7 B.kind B.num (.slice a4 B.kids.length n4) (((v6.setCell ⟨g7, 0, none⟩ (.int .i64 B.kind)).setCell ⟨g7, 1, none⟩ (.int .i64 B.num)).setCell ⟨g7, 2, none⟩ (.slice a4 B.kids.length n4))) := tuck V7.out.set
      clear V7
      generalize (((v6.setCell ⟨g7, 0, none⟩ (.int .i64 B.kind)).setCell ⟨g7, 1, none⟩ (.int .i64 B.num)).setCell ⟨g7, 2, none⟩ (.slice a4 B.kids.length n4)) = v7 at *
      replace hS1 := hS1'
      clear hS1'
      refine AnyTwo.done (by kernel_rfl) ?_ _
      go_wp2_with fail
      go_meet
      exact ⟨g4, g5, g6, g7, rfl, rfl, rfl, rfl, hS1, V4'.out, V5'.out, V6'.out, V7'.out⟩
   ·go_simp
    have hS1' := bAfter hS1 (below1 w1 (.cells #[.int .i64 0, .int .i64 0, .slice none 0 0] 29))
    refine hK.out _ _ (ph_one (by kernel_rfl) hS1') ?_
    clear hK K
    have V5 := tuck (VarAt.new w1 0 0 (.slice none 0 0))
    have HG5 : Hid (W0.heap.size ≤ w1.heap.size) := tuck hS1.size
    replace V6 := tuck (V6.out.below (below1 w1 (.cells #[.int .i64 0, .int .i64 0, .slice none 0 0] 29)))
    have N5 : Hid (g6 < w1.heap.size) := tuck HL6.out
    replace HL6 := tuck (Nat.lt_of_lt_of_le HL6.out (below1 w1 (.cells #[.int .i64 0, .int .i64 0, .slice none 0 0] 29)).size)
    have HL5 : Hid (w1.heap.size < (w1.alloc (.cells #[.int .i64 0, .int .i64 0, .slice none 0 0] 29)).heap.size) := tuck V5.out.facts.1
    try simp only [Act.put, List.setIfInBounds_toArray, List.set_cons_zero, List.set_cons_succ]
    generalize (w1.alloc (.cells #[.int .i64 0, .int .i64 0, .slice none 0 0] 29)) = w2 at *
    generalize w1.heap.size = g5 at *
    replace hS1 := hS1'
    clear hS1'
    refine AnyTwo.fork (i := 19) (j := 22) (o := ⟨some 4, _, _, _, _, _⟩) (o' := ⟨some 7, _, _, _, _, _⟩) (by kernel_rfl) rfl rfl (fun K hK => ?_) (fun K hK => ?_)
    ·go_simp
     have hS1' := bAfter hS1 (below1 w2 (.cells #[.int .i64 0, .int .i64 0, .slice none 0 0] 29))
     refine hK.out _ _ (ph_one (by kernel_rfl) hS1') ?_
     clear hK K
     have V4 := tuck (VarAt.new w2 0 0 (.slice none 0 0))
     have HG4 : Hid (W0.heap.size ≤ w2.heap.size) := tuck hS1.size
     replace V6 := tuck (V6.out.below (below1 w2 (.cells #[.int .i64 0, .int .i64 0, .slice none 0 0] 29)))
     replace V5 := tuck (V5.out.below (below1 w2 (.cells #[.int .i64 0, .int .i64 0, .slice none 0 0] 29)))
     have N4 : Hid (g6 < w2.heap.size ∧ g5 < w2.heap.size) := tuck ⟨HL6.out, HL5.out⟩
     replace HL6 := tuck (Nat.lt_of_lt_of_le HL6.out (below1 w2 (.cells #[.int .i64 0, .int .i64 0, .slice none 0 0] 29)).size)
     replace HL5 := tuck (Nat.lt_of_lt_of_le HL5.out (below1 w2 (.cells #[.int .i64 0, .int .i64 0, .slice none 0 0] 29)).size)
     have HL4 : Hid (w2.heap.size < (w2.alloc (.cells #[.int .i64 0, .int .i64 0, .slice none 0 0] 29)).heap.size) := tuck V4.out.facts.1
     try simp only [Act.put, List.setIfInBounds_toArray, List.set_cons_zero, List.set_cons_succ]
     generalize (w2.alloc (.cells #[.int .i64 0, .int .i64 0, .slice none 0 0] 29)) = w3 at *
     generalize w2.heap.size = g4 at *
     replace hS1 := hS1'
     clear hS1'
     refine AnyTwo.step (i := 22) (o := ⟨some 7, _, _, _, _, _⟩) (by kernel_rfl) rfl (fun K hK => ?_)
     ·go_simp
      have hS1' := bAfter hS1 (below1 w3 (.cells #[.int .i64 0, .int .i64 0, .slice none 0 0] 29))
      refine hK.out _ _ (ph_one (by kernel_rfl) hS1') ?_
      clear hK K
      have V7 := tuck (VarAt.new w3 0 0 (.slice none 0 0))
      have HG7 : Hid (W0.heap.size ≤ w3.heap.size) := tuck hS1.size
      replace V6 := tuck (V6.out.below (below1 w3 (.cells #[.int .i64 0, .int .i64 0, .slice none 0 0] 29)))
      replace V5 := tuck (V5.out.below (below1 w3 (.cells #[.int .i64 0, .int .i64 0, .slice none 0 0] 29)))
      replace V4 := tuck (V4.out.below (below1 w3 (.cells #[.int .i64 0, .int .i64 0, .slice none 0 0] 29)))
      have N7 : Hid (g6 < w3.heap.size ∧ g5 < w3.heap.size ∧ g4 < w3.heap.size) := tuck ⟨HL6.out, HL5.out, HL4.out⟩
      replace HL6 := tuck (Nat.lt_of_lt_of_le HL6.out (below1 w3 (.cells #[.int .i64 0, .int .i64 0, .slice none 0 0] 29)).size)
      replace HL5 := tuck (Nat.lt_of_lt_of_le HL5.out (below1 w3 (.cells #[.int .i64 0, .int .i64 0, .slice none 0 0] 29)).size)
      replace HL4 := tuck (Nat.lt_of_lt_of_le HL4.out (below1 w3 (.cells #[.int .i64 0, .int .i64 0, .slice none 0 0] 29)).size)
      have HL7 : Hid (w3.heap.size < (w3.alloc (.cells #[.int .i64 0, .int .i64 0, .slice none 0 0] 29)).heap.size) := tuck V7.out.facts.1
      try simp only [Act.put, List.setIfInBounds_toArray, List.set_cons_zero, List.set_cons_succ]
      generalize (w3.alloc (.cells #[.int .i64 0, .int .i64 0, .slice none 0 0] 29)) = w4 at *
      generalize w3.heap.size = g7 at *
      replace hS1 := hS1'
      clear hS1'
      have q65 : g6 ≠ g5 := Nat.ne_of_lt (N5.out)
      have q56 : g5 ≠ g6 := Ne.symm q65
      have q64 : g6 ≠ g4 := Nat.ne_of_lt (N4.out.1)
      have q46 : g4 ≠ g6 := Ne.symm q64
      have q54 : g5 ≠ g4 := Nat.ne_of_lt (N4.out.2)
      have q45 : g4 ≠ g5 := Ne.symm q54
      have q67 : g6 ≠ g7 := Nat.ne_of_lt (N7.out.1)
      have q76 : g7 ≠ g6 := Ne.symm q67
      have q57 : g5 ≠ g7 := Nat.ne_of_lt (N7.out.2.1)
      have q75 : g7 ≠ g5 := Ne.symm q57
      have q47 : g4 ≠ g7 := Nat.ne_of_lt (N7.out.2.2)
      have q74 : g7 ≠ g4 := Ne.symm q47
      obtain ⟨z4, f0, f1, f2, ff⟩ := V4.out.facts
      refine AnyTwo.step (i := 23) (o := ⟨none, _, _, _, _, _⟩) (by kernel_rfl) rfl (fun K hK => ?_)
      go_simp
      have hS1' := bSet3 hS1 HG4.out 0 1 2 (.int .i64 P.kind) (.int .i64 P.num) (.slice a0 P.kids.length n0)
      refine hK.out _ _ (ph_one (by kernel_rfl) hS1') ?_
      clear hK K f0 f1 f2 ff
      have V4' : Hid (VarAt g4 P.kind P.num (.slice a0 P.kids.length n0) (((w4.setCell ⟨g4, 0, none⟩ (.int .i64 P.kind)).setCell ⟨g4, 1, none⟩ (.int .i64 P.num)).setCell ⟨g4, 2, none⟩ (.slice a0 P.kids.length n0))) := tuck V4.out.set
      replace V5 := tuck (V5.out.far3 q54 0 1 2 (.int .i64 P.kind) (.int .i64 P.num) (.slice a0 P.kids.length n0))
      replace V6 := tuck (V6.out.far3 q64 0 1 2 (.int .i64 P.kind) (.int .i64 P.num) (.slice a0 P.kids.length n0))
      replace V7 := tuck (V7.out.far3 q74 0 1 2 (.int .i64 P.kind) (.int .i64 P.num) (.slice a0 P.kids.length n0))
      clear V4
      generalize (((w4.setCell ⟨g4, 0, none⟩ (.int .i64 P.kind)).setCell ⟨g4, 1, none⟩ (.int .i64 P.num)).setCell ⟨g4, 2, none⟩ (.slice a0 P.kids.length n0)) = v4 at *
      replace hS1 := hS1'
      clear hS1'
      obtain ⟨z5, f0, f1, f2, ff⟩ := V5.out.facts
      refine AnyTwo.step (i := 24) (o := ⟨none, _, _, _, _, _⟩) (by kernel_rfl) rfl (fun K hK => ?_)
      go_simp
      have hS1' := bSet3 hS1 HG5.out 0 1 2 (.int .i64 Z.kind) (.int .i64 Z.num) (.slice a1 Z.kids.length n1)
      refine hK.out _ _ (ph_one (by kernel_rfl) hS1') ?_
      clear hK K f0 f1 f2 ff
      replace V4' := tuck (V4'.out.far3 q45 0 1 2 (.int .i64 Z.kind) (.int .i64 Z.num) (.slice a1 Z.kids.length n1))
      have V5' : Hid (VarAt g5 Z.kind Z.num (.slice a1 Z.kids.length n1) (((v4.setCell ⟨g5, 0, none⟩ (.int .i64 Z.kind)).setCell ⟨g5, 1, none⟩ (.int .i64 Z.num)).setCell ⟨g5, 2, none⟩ (.slice a1 Z.kids.length n1))) := tuck V5.out.set
      replace V6 := tuck (V6.out.far3 q65 0 1 2 (.int .i64 Z.kind) (.int .i64 Z.num) (.slice a1 Z.kids.length n1))
      replace V7 := tuck (V7.out.far3 q75 0 1 2 (.int .i64 Z.kind) (.int .i64 Z.num) (.slice a1 Z.kids.length n1))
      clear V5
      generalize (((v4.setCell ⟨g5, 0, none⟩ (.int .i64 Z.kind)).setCell ⟨g5, 1, none⟩ (.int .i64 Z.num)).setCell ⟨g5, 2, none⟩ (.slice a1 Z.kids.length n1)) = v5 at *
      replace hS1 := hS1'
      clear hS1'
      obtain ⟨z6, f0, f1, f2, ff⟩ := V6.out.facts
      refine AnyTwo.step (i := 25) (o := ⟨none, _, _, _, _, _⟩) (by kernel_rfl) rfl (fun K hK => ?_)
      go_simp
      have hS1' := bSet3 hS1 HG6.out 0 1 2 (.int .i64 S.kind) (.int .i64 S.num) (.slice a2 S.kids.length n2)
      refine hK.out _ _ (ph_one (by kernel_rfl) hS1') ?_
      clear hK K f0 f1 f2 ff
      replace V4' := tuck (V4'.out.far3 q46 0 1 2 (.int .i64 S.kind) (.int .i64 S.num) (.slice a2 S.kids.length n2))
      replace V5' := tuck (V5'.out.far3 q56 0 1 2 (.int .i64 S.kind) (.int .i64 S.num) (.slice a2 S.kids.length n2))
      have V6' : Hid (VarAt g6 S.kind S.num (.slice a2 S.kids.length n2) (((v5.setCell ⟨g6, 0, none⟩ (.int .i64 S.kind)).setCell ⟨g6, 1, none⟩ (.int .i64 S.num)).setCell ⟨g6, 2, none⟩ (.slice a2 S.kids.length n2))) := tuck V6.out.set
      replace V7 := tuck (V7.out.far3 q76 0 1 2 (.int .i64 S.kind) (.int .i64 S.num) (.slice a2 S.kids.length n2))
      clear V6
      generalize (((v5.setCell ⟨g6, 0, none⟩ (.int .i64 S.kind)).setCell ⟨g6, 1, none⟩ (.int .i64 S.num)).setCell ⟨g6, 2, none⟩ (.slice a2 S.kids.length n2)) = v6 at *
      replace hS1 := hS1'
      clear hS1'
      obtain ⟨z7, f0, f1, f2, ff⟩ := V7.out.facts
      refine AnyTwo.step (i := 26) (o := ⟨none, _, _, _, _, _⟩) (by kernel_rfl) rfl (fun K hK => ?_)
      go_simp
      have hS1' := bSet3 hS1 HG7.out 0 1 2 (.int .i64 B.kind) (.int .i64 B.num) (.slice a4 B.kids.length n4)
      refine hK.out _ _ (ph_end (by kernel_rfl) hS1') ?_
      clear hK K f0 f1 f2 ff
      replace V4' := tuck (V4'.out.far3 q47 0 1 2 (.int .i64 B.kind) (.int .i64 B.num) (.slice a4 B.kids.length n4))
      replace V5' := tuck (V5'.out.far3 q57 0 1 2 (.int .i64 B.kind) (.int .i64 B.num) (.slice a4 B.kids.length n4))
      replace V6' := tuck (V6'.out.far3 q67 0 1 2 (.int .i64 B.kind) (.int .i64 B.num) (.slice a4 B.kids.length n4))
      have V7' : Hid (VarAt g7 B.kind B.num (.slice a4 B.kids.length n4) (((v6.setCell ⟨g7, 0, none⟩ (.int .i64 B.kind)).setCell ⟨g7, 1, none⟩ (.int .i64 B.num)).setCell ⟨g7, 2, none⟩ (.slice a4 B.kids.length n4))) := tuck V7.out.set
      clear V7
      generalize (((v6.setCell ⟨g7, 0, none⟩ (.int .i64 B.kind)).setCell ⟨g7, 1, none⟩ (.int .i64 B.num)).setCell ⟨g7, 2, none⟩ (.slice a4 B.kids.length n4)) = v7 at *
      replace hS1 := hS1'
      clear hS1'
      refine AnyTwo.done (by kernel_rfl) ?_ _
      go_wp2_with fail
      go_meet
      exact ⟨g4, g5, g6, g7, rfl, rfl, rfl, rfl, hS1, V4'.out, V5'.out, V6'.out, V7'.out⟩
    ·go_simp
     have hS1' := bAfter hS1 (below1 w2 (.cells #[.int .i64 0, .int .i64 0, .slice none 0 0] 29))
     refine hK.out _ _ (ph_one (by kernel_rfl) hS1') ?_
     clear hK K
     have V7 := tuck (VarAt.new w2 0 0 (.slice none 0 0))
     have HG7 : Hid (W0.heap.size ≤ w2.heap.size) := tuck hS1.size
     replace V6 := tuck (V6.out.below (below1 w2 (.cells #[.int .i64 0, .int .i64 0, .slice none 0 0] 29)))
     replace V5 := tuck (V5.out.below (below1 w2 (.cells #[.int .i64 0, .int .i64 0, .slice none 0 0] 29)))
     have N7 : Hid (g6 < w2.heap.size ∧ g5 < w2.heap.size) := tuck ⟨HL6.out, HL5.out⟩
     replace HL6 := tuck (Nat.lt_of_lt_of_le HL6.out (below1 w2 (.cells #[.int .i64 0, .int .i64 0, .slice none 0 0] 29)).size)
     replace HL5 := tuck (Nat.lt_of_lt_of_le HL5.out (below1 w2 (.cells #[.int .i64 0, .int .i64 0, .slice none 0 0] 29)).size)
     have HL7 : Hid (w2.heap.size < (w2.alloc (.cells #[.int .i64 0, .int .i64 0, .slice none 0 0] 29)).heap.size) := tuck V7.out.facts.1
     try simp only [Act.put, List.setIfInBounds_toArray, List.set_cons_zero, List.set_cons_succ]
     generalize (w2.alloc (.cells #[.int .i64 0, .int .i64 0, .slice none 0 0] 29)) = w3 at *
     generalize w2.heap.size = g7 at *
     replace hS1 := hS1'
     clear hS1'
     refine AnyTwo.step (i := 19) (o := ⟨some 4, _, _, _, _, _⟩) (by kernel_rfl) rfl (fun K hK => ?_)
     ·go_simp
      have hS1' := bAfter hS1 (below1 w3 (.cells #[.int .i64 0, .int .i64 0, .slice none 0 0] 29))
      refine hK.out _ _ (ph_one (by kernel_rfl) hS1') ?_
      clear hK K
      have V4 := tuck (VarAt.new w3 0 0 (.slice none 0 0))
      have HG4 : Hid (W0.heap.size ≤ w3.heap.size) := tuck hS1.size
      replace V6 := tuck (V6.out.below (below1 w3 (.cells #[.int .i64 0, .int .i64 0, .slice none 0 0] 29)))
      replace V5 := tuck (V5.out.below (below1 w3 (.cells #[.int .i64 0, .int .i64 0, .slice none 0 0] 29)))
      replace V7 := tuck (V7.out.below (below1 w3 (.cells #[.int .i64 0, .int .i64 0, .slice none 0 0] 29)))
      have N4 : Hid (g6 < w3.heap.size ∧ g5 < w3.heap.size ∧ g7 < w3.heap.size) := tuck ⟨HL6.out, HL5.out, HL7.out⟩
      replace HL6 := tuck (Nat.lt_of_lt_of_le HL6.out (below1 w3 (.cells #[.int .i64 0, .int .i64 0, .slice none 0 0] 29)).size)
      replace HL5 := tuck (Nat.lt_of_lt_of_le HL5.out (below1 w3 (.cells #[.int .i64 0, .int .i64 0, .slice none 0 0] 29)).size)
      replace HL7 := tuck (Nat.lt_of_lt_of_le HL7.out (below1 w3 (.cells #[.int .i64 0, .int .i64 0, .slice none 0 0] 29)).size)
      have HL4 : Hid (w3.heap.size < (w3.alloc (.cells #[.int .i64 0, .int .i64 0, .slice none 0 0] 29)).heap.size) := tuck V4.out.facts.1
      try simp only [Act.put, List.setIfInBounds_toArray, List.set_cons_zero, List.set_cons_succ]
      generalize (w3.alloc (.cells #[.int .i64 0, .int .i64 0, .slice none 0 0] 29)) = w4 at *
      generalize w3.heap.size = g4 at *
      replace hS1 := hS1'
      clear hS1'
      have q65 : g6 ≠ g5 := Nat.ne_of_lt (N5.out)
      have q56 : g5 ≠ g6 := Ne.symm q65
      have q67 : g6 ≠ g7 := Nat.ne_of_lt (N7.out.1)
      have q76 : g7 ≠ g6 := Ne.symm q67
      have q57 : g5 ≠ g7 := Nat.ne_of_lt (N7.out.2)
      have q75 : g7 ≠ g5 := Ne.symm q57
      have q64 : g6 ≠ g4 := Nat.ne_of_lt (N4.out.1)
      have q46 : g4 ≠ g6 := Ne.symm q64
      have q54 : g5 ≠ g4 := Nat.ne_of_lt (N4.out.2.1)
      have q45 : g4 ≠ g5 := Ne.symm q54
      have q74 : g7 ≠ g4 := Nat.ne_of_lt (N4.out.2.2)
      have q47 : g4 ≠ g7 := Ne.symm q74
      obtain ⟨z4, f0, f1, f2, ff⟩ := V4.out.facts
      refine AnyTwo.step (i := 23) (o := ⟨none, _, _, _, _, _⟩) (by kernel_rfl) rfl (fun K hK => ?_)
      go_simp
      have hS1' := bSet3 hS1 HG4.out 0 1 2 (.int .i64 P.kind) (.int .i64 P.num) (.slice a0 P.kids.length n0)
      refine hK.out _ _ (ph_one (by kernel_rfl) hS1') ?_
      clear hK K f0 f1 f2 ff
      have V4' : Hid (VarAt g4 P.kind P.num (.slice a0 P.kids.length n0) (((w4.setCell ⟨g4, 0, none⟩ (.int .i64 P.kind)).setCell ⟨g4, 1, none⟩ (.int .i64 P.num)).setCell ⟨g4, 2, none⟩ (.slice a0 P.kids.length n0))) := tuck V4.out.set
      replace V5 := tuck (V5.out.far3 q54 0 1 2 (.int .i64 P.kind) (.int .i64 P.num) (.slice a0 P.kids.length n0))
      replace V6 := tuck (V6.out.far3 q64 0 1 2 (.int .i64 P.kind) (.int .i64 P.num) (.slice a0 P.kids.length n0))
      replace V7 := tuck (V7.out.far3 q74 0 1 2 (.int .i64 P.kind) (.int .i64 P.num) (.slice a0 P.kids.length n0))
      clear V4
      generalize (((w4.setCell ⟨g4, 0, none⟩ (.int .i64 P.kind)).setCell ⟨g4, 1, none⟩ (.int .i64 P.num)).setCell ⟨g4, 2, none⟩ (.slice a0 P.kids.length n0)) = v4 at *
      replace hS1 := hS1'
      clear hS1'
      obtain ⟨z5, f0, f1, f2, ff⟩ := V5.out.facts
      refine AnyTwo.step (i := 24) (o := ⟨none, _, _, _, _, _⟩) (by kernel_rfl) rfl (fun K hK => ?_)
      go_simp
      have hS1' := bSet3 hS1 HG5.out 0 1 2 (.int .i64 Z.kind) (.int .i64 Z.num) (.slice a1 Z.kids.length n1)
      refine hK.out _ _ (ph_one (by kernel_rfl) hS1') ?_
      clear hK K f0 f1 f2 ff
      replace V4' := tuck (V4'.out.far3 q45 0 1 2 (.int .i64 Z.kind) (.int .i64 Z.num) (.slice a1 Z.kids.length n1))
      have V5' : Hid (VarAt g5 Z.kind Z.num (.slice a1 Z.kids.length n1) (((v4.setCell ⟨g5, 0, none⟩ (.int .i64 Z.kind)).setCell ⟨g5, 1, none⟩ (.int .i64 Z.num)).setCell ⟨g5, 2, none⟩ (.slice a1 Z.kids.length n1))) := tuck V5.out.set
      replace V6 := tuck (V6.out.far3 q65 0 1 2 (.int .i64 Z.kind) (.int .i64 Z.num) (.slice a1 Z.kids.length n1))
      replace V7 := tuck (V7.out.far3 q75 0 1 2 (.int .i64 Z.kind) (.int .i64 Z.num) (.slice a1 Z.kids.length n1))
      clear V5
      generalize (((v4.setCell ⟨g5, 0, none⟩ (.int .i64 Z.kind)).setCell ⟨g5, 1, none⟩ (.int .i64 Z.num)).setCell ⟨g5, 2, none⟩ (.slice a1 Z.kids.length n1)) = v5 at *
      replace hS1 := hS1'
      clear hS1'
      obtain ⟨z6, f0, f1, f2, ff⟩ := V6.out.facts
      refine AnyTwo.step (i := 25) (o := ⟨none, _, _, _, _, _⟩) (by kernel_rfl) rfl (fun K hK => ?_)
      go_simp
      have hS1' := bSet3 hS1 HG6.out 0 1 2 (.int .i64 S.kind) (.int .i64 S.num) (.slice a2 S.kids.length n2)
      refine hK.out _ _ (ph_one (by kernel_rfl) hS1') ?_
      clear hK K f0 f1 f2 ff
      replace V4' := tuck (V4'.out.far3 q46 0 1 2 (.int .i64 S.kind) (.int .i64 S.num) (.slice a2 S.kids.length n2))
      replace V5' := tuck (V5'.out.far3 q56 0 1 2 (.int .i64 S.kind) (.int .i64 S.num) (.slice a2 S.kids.length n2))
      have V6' : Hid (VarAt g6 S.kind S.num (.slice a2 S.kids.length n2) (((v5.setCell ⟨g6, 0, none⟩ (.int .i64 S.kind)).setCell ⟨g6, 1, none⟩ (.int .i64 S.num)).setCell ⟨g6, 2, none⟩ (.slice a2 S.kids.length n2))) := tuck V6.out.set
      replace V7 := tuck (V7.out.far3 q76 0 1 2 (.int .i64 S.kind) (.int .i64 S.num) (.slice a2 S.kids.length n2))
      clear V6
      generalize (((v5.setCell ⟨g6, 0, none⟩ (.int .i64 S.kind)).setCell ⟨g6, 1, none⟩ (.int .i64 S.num)).setCell ⟨g6, 2, none⟩ (.slice a2 S.kids.length n2)) = v6 at *
      replace hS1 := hS1'
      clear hS1'
      obtain ⟨z7, f0, f1, f2, ff⟩ := V7.out.facts
      refine AnyTwo.step (i := 26) (o := ⟨none, _, _, _, _, _⟩) (by kernel_rfl) rfl (fun K hK => ?_)
      go_simp
      have hS1' := bSet3 hS1 HG7.out 0 1 2 (.int .i64 B.kind) (.int .i64 B.num) (.slice a4 B.kids.length n4)
      refine hK.out _ _ (ph_end (by kernel_rfl) hS1') ?_
      clear hK K f0 f1 f2 ff
      replace V4' := tuck (V4'.out.far3 q47 0 1 2 (.int .i64 B.kind) (.int .i64 B.num) (.slice a4 B.kids.length n4))
      replace V5' := tuck (V5'.out.far3 q57 0 1 2 (.int .i64 B.kind) (.int .i64 B.num) (.slice a4 B.kids.length n4))
      replace V6' := tuck (V6'.out.far3 q67 0 1 2 (.int .i64 B.kind) (.int .i64 B.num) (.slice a4 B.kids.length n4))
      have V7' : Hid (VarAt g7 B.kind B.num (.slice a4 B.kids.length n4) (((v6.setCell ⟨g7, 0, none⟩ (.int .i64 B.kind)).setCell ⟨g7, 1, none⟩ (.int .i64 B.num)).setCell ⟨g7, 2, none⟩ (.slice a4 B.kids.length n4))) := tuck V7.out.set
      clear V7
      generalize (((v6.setCell ⟨g7, 0, none⟩ (.int .i64 B.kind)).setCell ⟨g7, 1, none⟩ (.int .i64 B.num)).setCell ⟨g7, 2, none⟩ (.slice a4 B.kids.length n4)) = v7 at *
      replace hS1 := hS1'
      clear hS1'
      refine AnyTwo.done (by kernel_rfl) ?_ _
      go_wp2_with fail
      go_meet
      exact ⟨g4, g5, g6, g7, rfl, rfl, rfl, rfl, hS1, V4'.out, V5'.out, V6'.out, V7'.out⟩
   ·go_simp
    have hS1' := bAfter hS1 (below1 w1 (.cells #[.int .i64 0, .int .i64 0, .slice none 0 0] 29))
    refine hK.out _ _ (ph_one (by kernel_rfl) hS1') ?_
    clear hK K
    have V7 := tuck (VarAt.new w1 0 0 (.slice none 0 0))
    have HG7 : Hid (W0.heap.size ≤ w1.heap.size) := tuck hS1.size
    replace V6 := tuck (V6.out.below (below1 w1 (.cells #[.int .i64 0, .int .i64 0, .slice none 0 0] 29)))
    have N7 : Hid (g6 < w1.heap.size) := tuck HL6.out
    replace HL6 := tuck (Nat.lt_of_lt_of_le HL6.out (below1 w1 (.cells #[.int .i64 0, .int .i64 0, .slice none 0 0] 29)).size)
    have HL7 : Hid (w1.heap.size < (w1.alloc (.cells #[.int .i64 0, .int .i64 0, .slice none 0 0] 29)).heap.size) := tuck V7.out.facts.1
    try simp only [Act.put, List.setIfInBounds_toArray, List.set_cons_zero, List.set_cons_succ]
    generalize (w1.alloc (.cells #[.int .i64 0, .int .i64 0, .slice none 0 0] 29)) = w2 at *
    generalize w1.heap.size = g7 at *
    replace hS1 := hS1'
    clear hS1'
    refine AnyTwo.fork (i := 19) (j := 20) (o := ⟨some 4, _, _, _, _, _⟩) (o' := ⟨some 5, _, _, _, _, _⟩) (by kernel_rfl) rfl rfl (fun K hK => ?_) (fun K hK => ?_)
    ·go_simp
     have hS1' := bAfter hS1 (below1 w2 (.cells #[.int .i64 0, .int .i64 0, .slice none 0 0] 29))
     refine hK.out _ _ (ph_one (by kernel_rfl) hS1') ?_
     clear hK K
     have V4 := tuck (VarAt.new w2 0 0 (.slice none 0 0))
     have HG4 : Hid (W0.heap.size ≤ w2.heap.size) := tuck hS1.size
     replace V6 := tuck (V6.out.below (below1 w2 (.cells #[.int .i64 0, .int .i64 0, .slice none 0 0] 29)))
     replace V7 := tuck (V7.out.below (below1 w2 (.cells #[.int .i64 0, .int .i64 0, .slice none 0 0] 29)))
     have N4 : Hid (g6 < w2.heap.size ∧ g7 < w2.heap.size) := tuck ⟨HL6.out, HL7.out⟩
     replace HL6 := tuck (Nat.lt_of_lt_of_le HL6.out (below1 w2 (.cells #[.int .i64 0, .int .i64 0, .slice none 0 0] 29)).size)
     replace HL7 := tuck (Nat.lt_of_lt_of_le HL7.out (below1 w2 (.cells #[.int .i64 0, .int .i64 0, .slice none 0 0] 29)).size)
     have HL4 : Hid (w2.heap.size < (w2.alloc (.cells #[.int .i64 0, .int .i64 0, .slice none 0 0] 29)).heap.size) := tuck V4.out.facts.1
     try simp only [Act.put, List.setIfInBounds_toArray, List.set_cons_zero, List.set_cons_succ]
     generalize (w2.alloc (.cells #[.int .i64 0, .int .i64 0, .slice none 0 0] 29)) = w3 at *
     generalize w2.heap.size = g4 at *
     replace hS1 := hS1'
     clear hS1'
     refine AnyTwo.step (i := 20) (o := ⟨some 5, _, _, _, _, _⟩) (by kernel_rfl) rfl (fun K hK => ?_)
     ·go_simp
      have hS1' := bAfter hS1 (below1 w3 (.cells #[.int .i64 0, .int .i64 0, .slice none 0 0] 29))
      refine hK.out _ _ (ph_one (by kernel_rfl) hS1') ?_
      clear hK K
      have V5 := tuck (VarAt.new w3 0 0 (.slice none 0 0))
      have HG5 : Hid (W0.heap.size ≤ w3.heap.size) := tuck hS1.size
      replace V6 := tuck (V6.out.below (below1 w3 (.cells #[.int .i64 0, .int .i64 0, .slice none 0 0] 29)))
      replace V7 := tuck (V7.out.below (below1 w3 (.cells #[.int .i64 0, .int .i64 0, .slice none 0 0] 29)))
      replace V4 := tuck (V4.out.below (below1 w3 (.cells #[.int .i64 0, .int .i64 0, .slice none 0 0] 29)))
      have N5 : Hid (g6 < w3.heap.size ∧ g7 < w3.heap.size ∧ g4 < w3.heap.size) := tuck ⟨HL6.out, HL7.out, HL4.out⟩
      replace HL6 := tuck (Nat.lt_of_lt_of_le HL6.out (below1 w3 (.cells #[.int .i64 0, .int .i64 0, .slice none 0 0] 29)).size)
      replace HL7 := tuck (Nat.lt_of_lt_of_le HL7.out (below1 w3 (.cells #[.int .i64 0, .int .i64 0, .slice none 0 0] 29)).size)
      replace HL4 := tuck (Nat.lt_of_lt_of_le HL4.out (below1 w3 (.cells #[.int .i64 0, .int .i64 0, .slice none 0 0] 29)).size)
      have HL5 : Hid (w3.heap.size < (w3.alloc (.cells #[.int .i64 0, .int .i64 0, .slice none 0 0] 29)).heap.size) := tuck V5.out.facts.1
      try simp only [Act.put, List.setIfInBounds_toArray, List.set_cons_zero, List.set_cons_succ]
      generalize (w3.alloc (.cells #[.int .i64 0, .int .i64 0, .slice none 0 0] 29)) = w4 at *
      generalize w3.heap.size = g5 at *
      replace hS1 := hS1'
      clear hS1'
      have q67 : g6 ≠ g7 := Nat.ne_of_lt (N7.out)
      have q76 : g7 ≠ g6 := Ne.symm q67
      have q64 : g6 ≠ g4 := Nat.ne_of_lt (N4.out.1)
      have q46 : g4 ≠ g6 := Ne.symm q64
      have q74 : g7 ≠ g4 := Nat.ne_of_lt (N4.out.2)
      have q47 : g4 ≠ g7 := Ne.symm q74
      have q65 : g6 ≠ g5 := Nat.ne_of_lt (N5.out.1)
      have q56 : g5 ≠ g6 := Ne.symm q65
      have q75 : g7 ≠ g5 := Nat.ne_of_lt (N5.out.2.1)
      have q57 : g5 ≠ g7 := Ne.symm q75
      have q45 : g4 ≠ g5 := Nat.ne_of_lt (N5.out.2.2)
      have q54 : g5 ≠ g4 := Ne.symm q45
      obtain ⟨z4, f0, f1, f2, ff⟩ := V4.out.facts
      refine AnyTwo.step (i := 23) (o := ⟨none, _, _, _, _, _⟩) (by kernel_rfl) rfl (fun K hK => ?_)
      go_simp
      have hS1' := bSet3 hS1 HG4.out 0 1 2 (.int .i64 P.kind) (.int .i64 P.num) (.slice a0 P.kids.length n0)
      refine hK.out _ _ (ph_one (by kernel_rfl) hS1') ?_
      clear hK K f0 f1 f2 ff
      have V4' : Hid (VarAt g4 P.kind P.num (.slice a0 P.kids.length n0) (((w4.setCell ⟨g4, 0, none⟩ (.int .i64 P.kind)).setCell ⟨g4, 1, none⟩ (.int .i64 P.num)).setCell ⟨g4, 2, none⟩ (.slice a0 P.kids.length n0))) := tuck V4.out.set
      replace V5 := tuck (V5.out.far3 q54 0 1 2 (.int .i64 P.kind) (.int .i64 P.num) (.slice a0 P.kids.length n0))
      replace V6 := tuck (V6.out.far3 q64 0 1 2 (.int .i64 P.kind) (.int .i64 P.num) (.slice a0 P.kids.length n0))
      replace V7 := tuck (V7.out.far3 q74 0 1 2 (.int .i64 P.kind) (.int .i64 P.num) (.slice a0 P.kids.length n0))
      clear V4
      generalize (((w4.setCell ⟨g4, 0, none⟩ (.int .i64 P.kind)).setCell ⟨g4, 1, none⟩ (.int .i64 P.num)).setCell ⟨g4, 2, none⟩ (.slice a0 P.kids.length n0)) = v4 at *
      replace hS1 := hS1'
      clear hS1'
      obtain ⟨z5, f0, f1, f2, ff⟩ := V5.out.facts
      refine AnyTwo.step (i := 24) (o := ⟨none, _, _, _, _, _⟩) (by kernel_rfl) rfl (fun K hK => ?_)
      go_simp
      have hS1' := bSet3 hS1 HG5.out 0 1 2 (.int .i64 Z.kind) (.int .i64 Z.num) (.slice a1 Z.kids.length n1)
      refine hK.out _ _ (ph_one (by kernel_rfl) hS1') ?_
      clear hK K f0 f1 f2 ff
      replace V4' := tuck (V4'.out.far3 q45 0 1 2 (.int .i64 Z.kind) (.int .i64 Z.num) (.slice a1 Z.kids.length n1))
      have V5' : Hid (VarAt g5 Z.kind Z.num (.slice a1 Z.kids.length n1) (((v4.setCell ⟨g5, 0, none⟩ (.int .i64 Z.kind)).setCell ⟨g5, 1, none⟩ (.int .i64 Z.num)).setCell ⟨g5, 2, none⟩ (.slice a1 Z.kids.length n1))) := tuck V5.out.set
      replace V6 := tuck (V6.out.far3 q65 0 1 2 (.int .i64 Z.kind) (.int .i64 Z.num) (.slice a1 Z.kids.length n1))
      replace V7 := tuck (V7.out.far3 q75 0 1 2 (.int .i64 Z.kind) (.int .i64 Z.num) (.slice a1 Z.kids.length n1))
      clear V5
      generalize (((v4.setCell ⟨g5, 0, none⟩ (.int .i64 Z.kind)).setCell ⟨g5, 1, none⟩ (.int .i64 Z.num)).setCell ⟨g5, 2, none⟩ (.slice a1 Z.kids.length n1)) = v5 at *
      replace hS1 := hS1'
      clear hS1'
      obtain ⟨z6, f0, f1, f2, ff⟩ := V6.out.facts
      refine AnyTwo.step (i := 25) (o := ⟨none, _, _, _, _, _⟩) (by kernel_rfl) rfl (fun K hK => ?_)
      go_simp
      have hS1' := bSet3 hS1 HG6.out 0 1 2 (.int .i64 S.kind) (.int .i64 S.num) (.slice a2 S.kids.length n2)
      refine hK.out _ _ (ph_one (by kernel_rfl) hS1') ?_
      clear hK K f0 f1 f2 ff
      replace V4' := tuck (V4'.out.far3 q46 0 1 2 (.int .i64 S.kind) (.int .i64 S.num) (.slice a2 S.kids.length n2))
      replace V5' := tuck (V5'.out.far3 q56 0 1 2 (.int .i64 S.kind) (.int .i64 S.num) (.slice a2 S.kids.length n2))
      have V6' : Hid (VarAt g6 S.kind S.num (.slice a2 S.kids.length n2) (((v5.setCell ⟨g6, 0, none⟩ (.int .i64 S.kind)).setCell ⟨g6, 1, none⟩ (.int .i64 S.num)).setCell ⟨g6, 2, none⟩ (.slice a2 S.kids.length n2))) := tuck V6.out.set
      replace V7 := tuck (V7.out.far3 q76 0 1 2 (.int .i64 S.kind) (.int .i64 S.num) (.slice a2 S.kids.length n2))
      clear V6
      generalize (((v5.setCell ⟨g6, 0, none⟩ (.int .i64 S.kind)).setCell ⟨g6, 1, none⟩ (.int .i64 S.num)).setCell ⟨g6, 2, none⟩ (.slice a2 S.kids.length n2)) = v6 at *
      replace hS1 := hS1'
      clear hS1'
      obtain ⟨z7, f0, f1, f2, ff⟩ := V7.out.facts
      refine AnyTwo.step (i := 26) (o := ⟨none, _, _, _, _, _⟩) (by kernel_rfl) rfl (fun K hK => ?_)
      go_simp
      have hS1' := bSet3 hS1 HG7.out 0 1 2 (.int .i64 B.kind) (.int .i64 B.num) (.slice a4 B.kids.length n4)
      refine hK.out _ _ (ph_end (by kernel_rfl) hS1') ?_
      clear hK K f0 f1 f2 ff
      replace V4' := tuck (V4'.out.far3 q47 0 1 2 (.int .i64 B.kind) (.int .i64 B.num) (.slice a4 B.kids.length n4))
      replace V5' := tuck (V5'.out.far3 q57 0 1 2 (.int .i64 B.kind) (.int .i64 B.num) (.slice a4 B.kids.length n4))
      replace V6' := tuck (V6'.out.far3 q67 0 1 2 (.int .i64 B.kind) (.int .i64 B.num) (.slice a4 B.kids.length n4))
      have V7' : Hid (VarAt g7 B.kind B.num (.slice a4 B.kids.length n4) (((v6.setCell ⟨g7, 0, none⟩ (.int .i64 B.kind)).setCell ⟨g7, 1, none⟩ (.int .i64 B.num)).setCell ⟨g7, 2, none⟩ (.slice a4 B.kids.length n4))) := tuck V7.out.set
      clear V7
      generalize (((v6.setCell ⟨g7, 0, none⟩ (.int .i64 B.kind)).setCell ⟨g7, 1, none⟩ (.int .i64 B.num)).setCell ⟨g7, 2, none⟩ (.slice a4 B.kids.length n4)) = v7 at *
      replace hS1 := hS1'
      clear hS1'
      refine AnyTwo.done (by kernel_rfl) ?_ _
      go_wp2_with fail
      go_meet
      exact ⟨g4, g5, g6, g7, rfl, rfl, rfl, rfl, hS1, V4'.out, V5'.out, V6'.out, V7'.out⟩
    ·go_simp
     have hS1' := bAfter hS1 (below1 w2 (.cells #[.int .i64 0, .int .i64 0, .slice none 0 0] 29))
     refine hK.out _ _ (ph_one (by kernel_rfl) hS1') ?_
     clear hK K
     have V5 := tuck (VarAt.new w2 0 0 (.slice none 0 0))
     have HG5 : Hid (W0.heap.size ≤ w2.heap.size) := tuck hS1.size
     replace V6 := tuck (V6.out.below (below1 w2 (.cells #[.int .i64 0, .int .i64 0, .slice none 0 0] 29)))
     replace V7 := tuck (V7.out.below (below1 w2 (.cells #[.int .i64 0, .int .i64 0, .slice none 0 0] 29)))
     have N5 : Hid (g6 < w2.heap.size ∧ g7 < w2.heap.size) := tuck ⟨HL6.out, HL7.out⟩
     replace HL6 := tuck (Nat.lt_of_lt_of_le HL6.out (below1 w2 (.cells #[.int .i64 0, .int .i64 0, .slice none 0 0] 29)).size)
     replace HL7 := tuck (Nat.lt_of_lt_of_le HL7.out (below1 w2 (.cells #[.int .i64 0, .int .i64 0, .slice none 0 0] 29)).size)
     have HL5 : Hid (w2.heap.size < (w2.alloc (.cells #[.int .i64 0, .int .i64 0, .slice none 0 0] 29)).heap.size) := tuck V5.out.facts.1
     try simp only [Act.put, List.setIfInBounds_toArray, List.set_cons_zero, List.set_cons_succ]
     generalize (w2.alloc (.cells #[.int .i64 0, .int .i64 0, .slice none 0 0] 29)) = w3 at *
     generalize w2.heap.size = g5 at *
     replace hS1 := hS1'
     clear hS1'
     refine AnyTwo.step (i := 19) (o := ⟨some 4, _, _, _, _, _⟩) (by kernel_rfl) rfl (fun K hK => ?_)
     ·go_simp
      have hS1' := bAfter hS1 (below1 w3 (.cells #[.int .i64 0, .int .i64 0, .slice none 0 0] 29))
      refine hK.out _ _ (ph_one (by kernel_rfl) hS1') ?_
      clear hK K
      have V4 := tuck (VarAt.new w3 0 0 (.slice none 0 0))
      have HG4 : Hid (W0.heap.size ≤ w3.heap.size) := tuck hS1.size
      replace V6 := tuck (V6.out.below (below1 w3 (.cells #[.int .i64 0, .int .i64 0, .slice none 0 0] 29)))
      replace V7 := tuck (V7.out.below (below1 w3 (.cells #[.int .i64 0, .int .i64 0, .slice none 0 0] 29)))
      replace V5 := tuck (V5.out.below (below1 w3 (.cells #[.int .i64 0, .int .i64 0, .slice none 0 0] 29)))
      have N4 : Hid (g6 < w3.heap.size ∧ g7 < w3.heap.size ∧ g5 < w3.heap.size) := tuck ⟨HL6.out, HL7.out, HL5.out⟩
      replace HL6 := tuck (Nat.lt_of_lt_of_le HL6.out (below1 w3 (.cells #[.int .i64 0, .int .i64 0, .slice none 0 0] 29)).size)
      replace HL7 := tuck (Nat.lt_of_lt_of_le HL7.out (below1 w3 (.cells #[.int .i64 0, .int .i64 0, .slice none 0 0] 29)).size)
      replace HL5 := tuck (Nat.lt_of_lt_of_le HL5.out (below1 w3 (.cells #[.int .i64 0, .int .i64 0, .slice none 0 0] 29)).size)
      have HL4 : Hid (w3.heap.size < (w3.alloc (.cells #[.int .i64 0, .int .i64 0, .slice none 0 0] 29)).heap.size) := tuck V4.out.facts.1
      try simp only [Act.put, List.setIfInBounds_toArray, List.set_cons_zero, List.set_cons_succ]
      generalize (w3.alloc (.cells #[.int .i64 0, .int .i64 0, .slice none 0 0] 29)) = w4 at *
      generalize w3.heap.size = g4 at *
      replace hS1 := hS1'
      clear hS1'
      have q67 : g6 ≠ g7 := Nat.ne_of_lt (N7.out)
      have q76 : g7 ≠ g6 := Ne.symm q67
      have q65 : g6 ≠ g5 := Nat.ne_of_lt (N5.out.1)
      have q56 : g5 ≠ g6 := Ne.symm q65
      have q75 : g7 ≠ g5 := Nat.ne_of_lt (N5.out.2)
      have q57 : g5 ≠ g7 := Ne.symm q75
      have q64 : g6 ≠ g4 := Nat.ne_of_lt (N4.out.1)
      have q46 : g4 ≠ g6 := Ne.symm q64
      have q74 : g7 ≠ g4 := Nat.ne_of_lt (N4.out.2.1)
      have q47 : g4 ≠ g7 := Ne.symm q74
      have q54 : g5 ≠ g4 := Nat.ne_of_lt (N4.out.2.2)
      have q45 : g4 ≠ g5 := Ne.symm q54
      obtain ⟨z4, f0, f1, f2, ff⟩ := V4.out.facts
      refine AnyTwo.step (i := 23) (o := ⟨none, _, _, _, _, _⟩) (by kernel_rfl) rfl (fun K hK => ?_)
      go_simp
      have hS1' := bSet3 hS1 HG4.out 0 1 2 (.int .i64 P.kind) (.int .i64 P.num) (.slice a0 P.kids.length n0)
      refine hK.out _ _ (ph_one (by kernel_rfl) hS1') ?_
      clear hK K f0 f1 f2 ff
      have V4' : Hid (VarAt g4 P.kind P.num (.slice a0 P.kids.length n0) (((w4.setCell ⟨g4, 0, none⟩ (.int .i64 P.kind)).setCell ⟨g4, 1, none⟩ (.int .i64 P.num)).setCell ⟨g4, 2, none⟩ (.slice a0 P.kids.length n0))) := tuck V4.out.set
      replace V5 := tuck (V5.out.far3 q54 0 1 2 (.int .i64 P.kind) (.int .i64 P.num) (.slice a0 P.kids.length n0))
      replace V6 := tuck (V6.out.far3 q64 0 1 2 (.int .i64 P.kind) (.int .i64 P.num) (.slice a0 P.kids.length n0))
      replace V7 := tuck (V7.out.far3 q74 0 1 2 (.int .i64 P.kind) (.int .i64 P.num) (.slice a0 P.kids.length n0))
      clear V4
      generalize (((w4.setCell ⟨g4, 0, none⟩ (.int .i64 P.kind)).setCell ⟨g4, 1, none⟩ (.int .i64 P.num)).setCell ⟨g4, 2, none⟩ (.slice a0 P.kids.length n0)) = v4 at *
      replace hS1 := hS1'
      clear hS1'
      obtain ⟨z5, f0, f1, f2, ff⟩ := V5.out.facts
      refine AnyTwo.step (i := 24) (o := ⟨none, _, _, _, _, _⟩) (by kernel_rfl) rfl (fun K hK => ?_)
      go_simp
      have hS1' := bSet3 hS1 HG5.out 0 1 2 (.int .i64 Z.kind) (.int .i64 Z.num) (.slice a1 Z.kids.length n1)
      refine hK.out _ _ (ph_one (by kernel_rfl) hS1') ?_
      clear hK K f0 f1 f2 ff
      replace V4' := tuck (V4'.out.far3 q45 0 1 2 (.int .i64 Z.kind) (.int .i64 Z.num) (.slice a1 Z.kids.length n1))
      have V5' : Hid (VarAt g5 Z.kind Z.num (.slice a1 Z.kids.length n1) (((v4.setCell ⟨g5, 0, none⟩ (.int .i64 Z.kind)).setCell ⟨g5, 1, none⟩ (.int .i64 Z.num)).setCell ⟨g5, 2, none⟩ (.slice a1 Z.kids.length n1))) := tuck V5.out.set
      replace V6 := tuck (V6.out.far3 q65 0 1 2 (.int .i64 Z.kind) (.int .i64 Z.num) (.slice a1 Z.kids.length n1))
      replace V7 := tuck (V7.out.far3 q75 0 1 2 (.int .i64 Z.kind) (.int .i64 Z.num) (.slice a1 Z.kids.length n1))
      clear V5
      generalize (((v4.setCell ⟨g5, 0, none⟩ (.int .i64 Z.kind)).setCell ⟨g5, 1, none⟩ (.int .i64 Z.num)).setCell ⟨g5, 2, none⟩ (.slice a1 Z.kids.length n1)) = v5 at *
      replace hS1 := hS1'
      clear hS1'
      obtain ⟨z6, f0, f1, f2, ff⟩ := V6.out.facts
      refine AnyTwo.step (i := 25) (o := ⟨none, _, _, _, _, _⟩) (by kernel_rfl) rfl (fun K hK => ?_)
      go_simp
      have hS1' := bSet3 hS1 HG6.out 0 1 2 (.int .i64 S.kind) (.int .i64 S.num) (.slice a2 S.kids.length n2)
      refine hK.out _ _ (ph_one (by kernel_rfl) hS1') ?_
      clear hK K f0 f1 f2 ff
      replace V4' := tuck (V4'.out.far3 q46 0 1 2 (.int .i64 S.kind) (.int .i64 S.num) (.slice a2 S.kids.length n2))
      replace V5' := tuck (V5'.out.far3 q56 0 1 2 (.int .i64 S.kind) (.int .i64 S.num) (.slice a2 S.kids.length n2))
      have V6' : Hid (VarAt g6 S.kind S.num (.slice a2 S.kids.length n2) (((v5.setCell ⟨g6, 0, none⟩ (.int .i64 S.kind)).setCell ⟨g6, 1, none⟩ (.int .i64 S.num)).setCell ⟨g6, 2, none⟩ (.slice a2 S.kids.length n2))) := tuck V6.out.set
      replace V7 := tuck (V7.out.far3 q76 0 1 2 (.int .i64 S.kind) (.int .i64 S.num) (.slice a2 S.kids.length n2))
      clear V6
      generalize (((v5.setCell ⟨g6, 0, none⟩ (.int .i64 S.kind)).setCell ⟨g6, 1, none⟩ (.int .i64 S.num)).setCell ⟨g6, 2, none⟩ (.slice a2 S.kids.length n2)) = v6 at *
      replace hS1 := hS1'
      clear hS1'
      obtain ⟨z7, f0, f1, f2, ff⟩ := V7.out.facts
      refine AnyTwo.step (i := 26) (o := ⟨none, _, _, _, _, _⟩) (by kernel_rfl) rfl (fun K hK => ?_)
      go_simp
      have hS1' := bSet3 hS1 HG7.out 0 1 2 (.int .i64 B.kind) (.int .i64 B.num) (.slice a4 B.kids.length n4)
      refine hK.out _ _ (ph_end (by kernel_rfl) hS1') ?_
      clear hK K f0 f1 f2 ff
      replace V4' := tuck (V4'.out.far3 q47 0 1 2 (.int .i64 B.kind) (.int .i64 B.num) (.slice a4 B.kids.length n4))
      replace V5' := tuck (V5'.out.far3 q57 0 1 2 (.int .i64 B.kind) (.int .i64 B.num) (.slice a4 B.kids.length n4))
      replace V6' := tuck (V6'.out.far3 q67 0 1 2 (.int .i64 B.kind) (.int .i64 B.num) (.slice a4 B.kids.length n4))
      have V7' : Hid (VarAt g7 B.kind B.num (.slice a4 B.kids.length n4) (((v6.setCell ⟨g7, 0, none⟩ (.int .i64 B.kind)).setCell ⟨g7, 1, none⟩ (.int .i64 B.num)).setCell ⟨g7, 2, none⟩ (.slice a4 B.kids.length n4))) := tuck V7.out.set
      clear V7
      generalize (((v6.setCell ⟨g7, 0, none⟩ (.int .i64 B.kind)).setCell ⟨g7, 1, none⟩ (.int .i64 B.num)).setCell ⟨g7, 2, none⟩ (.slice a4 B.kids.length n4)) = v7 at *
      replace hS1 := hS1'
      clear hS1'
      refine AnyTwo.done (by kernel_rfl) ?_ _
      go_wp2_with fail
      go_meet
      exact ⟨g4, g5, g6, g7, rfl, rfl, rfl, rfl, hS1, V4'.out, V5'.out, V6'.out, V7'.out⟩
  ·go_simp
   have hS1' := bAfter hS1 (below1 w0 (.cells #[.int .i64 0, .int .i64 0, .slice none 0 0] 29))
   refine hK.out _ _ (ph_one (by kernel_rfl) hS1') ?_
   clear hK K
   have V7 := tuck (VarAt.new w0 0 0 (.slice none 0 0))
   have HG7 : Hid (W0.heap.size ≤ w0.heap.size) := tuck hS1.size
   have HL7 : Hid (w0.heap.size < (w0.alloc (.cells #[.int .i64 0, .int .i64 0, .slice none 0 0] 29)).heap.size) := tuck V7.out.facts.1
   try simp only [Act.put, List.setIfInBounds_toArray, List.set_cons_zero, List.set_cons_succ]
   generalize (w0.alloc (.cells #[.int .i64 0, .int .i64 0, .slice none 0 0] 29)) = w1 at *
   generalize w0.heap.size = g7 at *
   replace hS1 := hS1'
   clear hS1'
   refine AnyTwo.fork3 (i0 := 19) (o0 := ⟨some 4, _, _, _, _, _⟩) (i1 := 20) (o1 := ⟨some 5, _, _, _, _, _⟩) (i2 := 21) (o2 := ⟨some 6, _, _, _, _, _⟩) (by kernel_rfl) rfl rfl rfl (fun K hK => ?_) (fun K hK => ?_) (fun K hK => ?_)
   ·go_simp
    have hS1' := bAfter hS1 (below1 w1 (.cells #[.int .i64 0, .int .i64 0, .slice none 0 0] 29))
    refine hK.out _ _ (ph_one (by kernel_rfl) hS1') ?_
    clear hK K
    have V4 := tuck (VarAt.new w1 0 0 (.slice none 0 0))
    have HG4 : Hid (W0.heap.size ≤ w1.heap.size) := tuck hS1.size
    replace V7 := tuck (V7.out.below (below1 w1 (.cells #[.int .i64 0, .int .i64 0, .slice none 0 0] 29)))
    have N4 : Hid (g7 < w1.heap.size) := tuck HL7.out
    replace HL7 := tuck (Nat.lt_of_lt_of_le HL7.out (below1 w1 (.cells #[.int .i64 0, .int .i64 0, .slice none 0 0] 29)).size)
    have HL4 : Hid (w1.heap.size < (w1.alloc (.cells #[.int .i64 0, .int .i64 0, .slice none 0 0] 29)).heap.size) := tuck V4.out.facts.1
    try simp only [Act.put, List.setIfInBounds_toArray, List.set_cons_zero, List.set_cons_succ]
    generalize (w1.alloc (.cells #[.int .i64 0, .int .i64 0, .slice none 0 0] 29)) = w2 at *
    generalize w1.heap.size = g4 at *
    replace hS1 := hS1'
    clear hS1'
    refine AnyTwo.fork (i := 20) (j := 21) (o := ⟨some 5, _, _, _, _, _⟩) (o' := ⟨some 6, _, _, _, _, _⟩) (by kernel_rfl) rfl rfl (fun K hK => ?_) (fun K hK => ?_)
    ·go_simp
     have hS1' := bAfter hS1 (below1 w2 (.cells #[.int .i64 0, .int .i64 0, .slice none 0 0] 29))
     refine hK.out _ _ (ph_one (by kernel_rfl) hS1') ?_
     clear hK K
     have V5 := tuck (VarAt.new w2 0 0 (.slice none 0 0))
     have HG5 : Hid (W0.heap.size ≤ w2.heap.size) := tuck hS1.size
     replace V7 := tuck (V7.out.below (below1 w2 (.cells #[.int .i64 0, .int .i64 0, .slice none 0 0] 29)))
     replace V4 := tuck (V4.out.below (below1 w2 (.cells #[.int .i64 0, .int .i64 0, .slice none 0 0] 29)))
     have N5 : Hid (g7 < w2.heap.size ∧ g4 < w2.heap.size) := tuck ⟨HL7.out, HL4.out⟩
     replace HL7 := tuck (Nat.lt_of_lt_of_le HL7.out (below1 w2 (.cells #[.int .i64 0, .int .i64 0, .slice none 0 0] 29)).size)
     replace HL4 := tuck (Nat.lt_of_lt_of_le HL4.out (below1 w2 (.cells #[.int .i64 0, .int .i64 0, .slice none 0 0] 29)).size)
     have HL5 : Hid (w2.heap.size < (w2.alloc (.cells #[.int .i64 0, .int .i64 0, .slice none 0 0] 29)).heap.size) := tuck V5.out.facts.1
     try simp only [Act.put, List.setIfInBounds_toArray, List.set_cons_zero, List.set_cons_succ]
     generalize (w2.alloc (.cells #[.int .i64 0, .int .i64 0, .slice none 0 0] 29)) = w3 at *
     generalize w2.heap.size = g5 at *
     replace hS1 := hS1'
     clear hS1'
     refine AnyTwo.step (i := 21) (o := ⟨some 6, _, _, _, _, _⟩) (by kernel_rfl) rfl (fun K hK => ?_)
     ·go_simp
      have hS1' := bAfter hS1 (below1 w3 (.cells #[.int .i64 0, .int .i64 0, .slice none 0 0] 29))
      refine hK.out _ _ (ph_one (by kernel_rfl) hS1') ?_
      clear hK K
      have V6 := tuck (VarAt.new w3 0 0 (.slice none 0 0))
      have HG6 : Hid (W0.heap.size ≤ w3.heap.size) := tuck hS1.size
      replace V7 := tuck (V7.out.below (below1 w3 (.cells #[.int .i64 0, .int .i64 0, .slice none 0 0] 29)))
      replace V4 := tuck (V4.out.below (below1 w3 (.cells #[.int .i64 0, .int .i64 0, .slice none 0 0] 29)))
      replace V5 := tuck (V5.out.below (below1 w3 (.cells #[.int .i64 0, .int .i64 0, .slice none 0 0] 29)))
      have N6 : Hid (g7 < w3.heap.size ∧ g4 < w3.heap.size ∧ g5 < w3.heap.size) := tuck ⟨HL7.out, HL4.out, HL5.out⟩
      replace HL7 := tuck (Nat.lt_of_lt_of_le HL7.out (below1 w3 (.cells #[.int .i64 0, .int .i64 0, .slice none 0 0] 29)).size)
      replace HL4 := tuck (Nat.lt_of_lt_of_le HL4.out (below1 w3 (.cells #[.int .i64 0, .int .i64 0, .slice none 0 0] 29)).size)
      replace HL5 := tuck (Nat.lt_of_lt_of_le HL5.out (below1 w3 (.cells #[.int .i64 0, .int .i64 0, .slice none 0 0] 29)).size)
      have HL6 : Hid (w3.heap.size < (w3.alloc (.cells #[.int .i64 0, .int .i64 0, .slice none 0 0] 29)).heap.size) := tuck V6.out.facts.1
      try simp only [Act.put, List.setIfInBounds_toArray, List.set_cons_zero, List.set_cons_succ]
      generalize (w3.alloc (.cells #[.int .i64 0, .int .i64 0, .slice none 0 0] 29)) = w4 at *
      generalize w3.heap.size = g6 at *
      replace hS1 := hS1'
      clear hS1'
      have q74 : g7 ≠ g4 := Nat.ne_of_lt (N4.out)
      have q47 : g4 ≠ g7 := Ne.symm q74
      have q75 : g7 ≠ g5 := Nat.ne_of_lt (N5.out.1)
      have q57 : g5 ≠ g7 := Ne.symm q75
      have q45 : g4 ≠ g5 := Nat.ne_of_lt (N5.out.2)
      have q54 : g5 ≠ g4 := Ne.symm q45
      have q76 : g7 ≠ g6 := Nat.ne_of_lt (N6.out.1)
      have q67 : g6 ≠ g7 := Ne.symm q76
      have q46 : g4 ≠ g6 := Nat.ne_of_lt (N6.out.2.1)
      have q64 : g6 ≠ g4 := Ne.symm q46
      have q56 : g5 ≠ g6 := Nat.ne_of_lt (N6.out.2.2)
      have q65 : g6 ≠ g5 := Ne.symm q56
      obtain ⟨z4, f0, f1, f2, ff⟩ := V4.out.facts
      refine AnyTwo.step (i := 23) (o := ⟨none, _, _, _, _, _⟩) (by kernel_rfl) rfl (fun K hK => ?_)
      go_simp
      have hS1' := bSet3 hS1 HG4.out 0 1 2 (.int .i64 P.kind) (.int .i64 P.num) (.slice a0 P.kids.length n0)
      refine hK.out _ _ (ph_one (by kernel_rfl) hS1') ?_
      clear hK K f0 f1 f2 ff
      have V4' : Hid (VarAt g4 P.kind P.num (.slice a0 P.kids.length n0) (((w4.setCell ⟨g4, 0, none⟩ (.int .i64 P.kind)).setCell ⟨g4, 1, none⟩ (.int .i64 P.num)).setCell ⟨g4, 2, none⟩ (.slice a0 P.kids.length n0))) := tuck V4.out.set
      replace V5 := tuck (V5.out.far3 q54 0 1 2 (.int .i64 P.kind) (.int .i64 P.num) (.slice a0 P.kids.length n0))
      replace V6 := tuck (V6.out.far3 q64 0 1 2 (.int .i64 P.kind) (.int .i64 P.num) (.slice a0 P.kids.length n0))
      replace V7 := tuck (V7.out.far3 q74 0 1 2 (.int .i64 P.kind) (.int .i64 P.num) (.slice a0 P.kids.length n0))
      clear V4
      generalize (((w4.setCell ⟨g4, 0, none⟩ (.int .i64 P.kind)).setCell ⟨g4, 1, none⟩ (.int .i64 P.num)).setCell ⟨g4, 2, none⟩ (.slice a0 P.kids.length n0)) = v4 at *
      replace hS1 := hS1'
      clear hS1'
      obtain ⟨z5, f0, f1, f2, ff⟩ := V5.out.facts
      refine AnyTwo.step (i := 24) (o := ⟨none, _, _, _, _, _⟩) (by kernel_rfl) rfl (fun K hK => ?_)
      go_simp
      have hS1' := bSet3 hS1 HG5.out 0 1 2 (.int .i64 Z.kind) (.int .i64 Z.num) (.slice a1 Z.kids.length n1)
      refine hK.out _ _ (ph_one (by kernel_rfl) hS1') ?_
      clear hK K f0 f1 f2 ff
      replace V4' := tuck (V4'.out.far3 q45 0 1 2 (.int .i64 Z.kind) (.int .i64 Z.num) (.slice a1 Z.kids.length n1))
      have V5' : Hid (VarAt g5 Z.kind Z.num (.slice a1 Z.kids.length n1) (((v4.setCell ⟨g5, 0, none⟩ (.int .i64 Z.kind)).setCell ⟨g5, 1, none⟩ (.int .i64 Z.num)).setCell ⟨g5, 2, none⟩ (.slice a1 Z.kids.length n1))) := tuck V5.out.set
      replace V6 := tuck (V6.out.far3 q65 0 1 2 (.int .i64 Z.kind) (.int .i64 Z.num) (.slice a1 Z.kids.length n1))
      replace V7 := tuck (V7.out.far3 q75 0 1 2 (.int .i64 Z.kind) (.int .i64 Z.num) (.slice a1 Z.kids.length n1))
      clear V5
      generalize (((v4.setCell ⟨g5, 0, none⟩ (.int .i64 Z.kind)).setCell ⟨g5, 1, none⟩ (.int .i64 Z.num)).setCell ⟨g5, 2, none⟩ (.slice a1 Z.kids.length n1)) = v5 at *
      replace hS1 := hS1'
      clear hS1'
      obtain ⟨z6, f0, f1, f2, ff⟩ := V6.out.facts
      refine AnyTwo.step (i := 25) (o := ⟨none, _, _, _, _, _⟩) (by kernel_rfl) rfl (fun K hK => ?_)
      go_simp
      have hS1' := bSet3 hS1 HG6.out 0 1 2 (.int .i64 S.kind) (.int .i64 S.num) (.slice a2 S.kids.length n2)
      refine hK.out _ _ (ph_one (by kernel_rfl) hS1') ?_
      clear hK K f0 f1 f2 ff
      replace V4' := tuck (V4'.out.far3 q46 0 1 2 (.int .i64 S.kind) (.int .i64 S.num) (.slice a2 S.kids.length n2))
      replace V5' := tuck (V5'.out.far3 q56 0 1 2 (.int .i64 S.kind) (.int .i64 S.num) (.slice a2 S.kids.length n2))
      have V6' : Hid (VarAt g6 S.kind S.num (.slice a2 S.kids.length n2) (((v5.setCell ⟨g6, 0, none⟩ (.int .i64 S.kind)).setCell ⟨g6, 1, none⟩ (.int .i64 S.num)).setCell ⟨g6, 2, none⟩ (.slice a2 S.kids.length n2))) := tuck V6.out.set
      replace V7 := tuck (V7.out.far3 q76 0 1 2 (.int .i64 S.kind) (.int .i64 S.num) (.slice a2 S.kids.length n2))
      clear V6
      generalize (((v5.setCell ⟨g6, 0, none⟩ (.int .i64 S.kind)).setCell ⟨g6, 1, none⟩ (.int .i64 S.num)).setCell ⟨g6, 2, none⟩ (.slice a2 S.kids.length n2)) = v6 at *
      replace hS1 := hS1'
      clear hS1'
      obtain ⟨z7, f0, f1, f2, ff⟩ := V7.out.facts
      refine AnyTwo.step (i := 26) (o := ⟨none, _, _, _, _, _⟩) (by kernel_rfl) rfl (fun K hK => ?_)
      go_simp
      have hS1' := bSet3 hS1 HG7.out 0 1 2 (.int .i64 B.kind) (.int .i64 B.num) (.slice a4 B.kids.length n4)
      refine hK.out _ _ (ph_end (by kernel_rfl) hS1') ?_
      clear hK K f0 f1 f2 ff
      replace V4' := tuck (V4'.out.far3 q47 0 1 2 (.int .i64 B.kind) (.int .i64 B.num) (.slice a4 B.kids.length n4))
      replace V5' := tuck (V5'.out.far3 q57 0 1 2 (.int .i64 B.kind) (.int .i64 B.num) (.slice a4 B.kids.length n4))
      replace V6' := tuck (V6'.out.far3 q67 0 1 2 (.int .i64 B.kind) (.int .i64 B.num) (.slice a4 B.kids.length n4))
      have V7' : Hid (VarAt g7 B.kind B.num (.slice a4 B.kids.length n4) (((v6.setCell ⟨g7, 0, none⟩ (.int .i64 B.kind)).setCell ⟨g7, 1, none⟩ (.int .i64 B.num)).setCell ⟨g7, 2, none⟩ (.slice a4 B.kids.length n4))) := tuck V7.out.set
      clear V7
      generalize (((v6.setCell ⟨g7, 0, none⟩ (.int .i64 B.kind)).setCell ⟨g7, 1, none⟩ (.int .i64 B.num)).setCell ⟨g7, 2, none⟩ (.slice a4 B.kids.length n4)) = v7 at *
      replace hS1 := hS1'
      clear hS1'
      refine AnyTwo.done (by kernel_rfl) ?_ _
      go_wp2_with fail
      go_meet
      exact ⟨g4, g5, g6, g7, rfl, rfl, rfl, rfl, hS1, V4'.out, V5'.out, V6'.out, V7'.out⟩
    ·go_simp
     have hS1' := bAfter hS1 (below1 w2 (.cells #[.int .i64 0, .int .i64 0, .slice none 0 0] 29))
     refine hK.out _ _ (ph_one (by kernel_rfl) hS1') ?_
     clear hK K
     have V6 := tuck (VarAt.new w2 0 0 (.slice none 0 0))
     have HG6 : Hid (W0.heap.size ≤ w2.heap.size) := tuck hS1.size
     replace V7 := tuck (V7.out.below (below1 w2 (.cells #[.int .i64 0, .int .i64 0, .slice none 0 0] 29)))
     replace V4 := tuck (V4.out.below (below1 w2 (.cells #[.int .i64 0, .int .i64 0, .slice none 0 0] 29)))
     have N6 : Hid (g7 < w2.heap.size ∧ g4 < w2.heap.size) := tuck ⟨HL7.out, HL4.out⟩
     replace HL7 := tuck (Nat.lt_of_lt_of_le HL7.out (below1 w2 (.cells #[.int .i64 0, .int .i64 0, .slice none 0 0] 29)).size)
     replace HL4 := tuck (Nat.lt_of_lt_of_le HL4.out (below1 w2 (.cells #[.int .i64 0, .int .i64 0, .slice none 0 0] 29)).size)
     have HL6 : Hid (w2.heap.size < (w2.alloc (.cells #[.int .i64 0, .int .i64 0, .slice none 0 0] 29)).heap.size) := tuck V6.out.facts.1
     try simp only [Act.put, List.setIfInBounds_toArray, List.set_cons_zero, List.set_cons_succ]
     generalize (w2.alloc (.cells #[.int .i64 0, .int .i64 0, .slice none 0 0] 29)) = w3 at *
     generalize w2.heap.size = g6 at *
     replace hS1 := hS1'
     clear hS1'
     refine AnyTwo.step (i := 20) (o := ⟨some 5, _, _, _, _, _⟩) (by kernel_rfl) rfl (fun K hK => ?_)
     ·go_simp
      have hS1' := bAfter hS1 (below1 w3 (.cells #[.int .i64 0, .int .i64 0, .slice none 0 0] 29))
      refine hK.out _ _ (ph_one (by kernel_rfl) hS1') ?_
      clear hK K
      have V5 := tuck (VarAt.new w3 0 0 (.slice none 0 0))
      have HG5 : Hid (W0.heap.size ≤ w3.heap.size) := tuck hS1.size
      replace V7 := tuck (V7.out.below (below1 w3 (.cells #[.int .i64 0, .int .i64 0, .slice none 0 0] 29)))
      replace V4 := tuck (V4.out.below (below1 w3 (.cells #[.int .i64 0, .int .i64 0, .slice none 0 0] 29)))
      replace V6 := tuck (V6.out.below (below1 w3 (.cells #[.int .i64 0, .int .i64 0, .slice none 0 0] 29)))
      have N5 : Hid (g7 < w3.heap.size ∧ g4 < w3.heap.size ∧ g6 < w3.heap.size) := tuck ⟨HL7.out, HL4.out, HL6.out⟩
      replace HL7 := tuck (Nat.lt_of_lt_of_le HL7.out (below1 w3 (.cells #[.int .i64 0, .int .i64 0, .slice none 0 0] 29)).size)
      replace HL4 := tuck (Nat.lt_of_lt_of_le HL4.out (below1 w3 (.cells #[.int .i64 0, .int .i64 0, .slice none 0 0] 29)).size)
      replace HL6 := tuck (Nat.lt_of_lt_of_le HL6.out (below1 w3 (.cells #[.int .i64 0, .int .i64 0, .slice none 0 0] 29)).size)
      have HL5 : Hid (w3.heap.size < (w3.alloc (.cells #[.int .i64 0, .int .i64 0, .slice none 0 0] 29)).heap.size) := tuck V5.out.facts.1
      try simp only [Act.put, List.setIfInBounds_toArray, List.set_cons_zero, List.set_cons_succ]
      generalize (w3.alloc (.cells #[.int .i64 0, .int .i64 0, .slice none 0 0] 29)) = w4 at *
      generalize w3.heap.size = g5 at *
      replace hS1 := hS1'
      clear hS1'
      have q74 : g7 ≠ g4 := Nat.ne_of_lt (N4.out)
      have q47 : g4 ≠ g7 := Ne.symm q74
      have q76 : g7 ≠ g6 := Nat.ne_of_lt (N6.out.1)
      have q67 : g6 ≠ g7 := Ne.symm q76
      have q46 : g4 ≠ g6 := Nat.ne_of_lt (N6.out.2)
      have q64 : g6 ≠ g4 := Ne.symm q46
      have q75 : g7 ≠ g5 := Nat.ne_of_lt (N5.out.1)
      have q57 : g5 ≠ g7 := Ne.symm q75
      have q45 : g4 ≠ g5 := Nat.ne_of_lt (N5.out.2.1)
      have q54 : g5 ≠ g4 := Ne.symm q45
      have q65 : g6 ≠ g5 := Nat.ne_of_lt (N5.out.2.2)
      have q56 : g5 ≠ g6 := Ne.symm q65
      obtain ⟨z4, f0, f1, f2, ff⟩ := V4.out.facts
      refine AnyTwo.step (i := 23) (o := ⟨none, _, _, _, _, _⟩) (by kernel_rfl) rfl (fun K hK => ?_)
      go_simp
      have hS1' := bSet3 hS1 HG4.out 0 1 2 (.int .i64 P.kind) (.int .i64 P.num) (.slice a0 P.kids.length n0)
      refine hK.out _ _ (ph_one (by kernel_rfl) hS1') ?_
      clear hK K f0 f1 f2 ff
      have V4' : Hid (VarAt g4 P.kind P.num (.slice a0 P.kids.length n0) (((w4.setCell ⟨g4, 0, none⟩ (.int .i64 P.kind)).setCell ⟨g4, 1, none⟩ (.int .i64 P.num)).setCell ⟨g4, 2, none⟩ (.slice a0 P.kids.length n0))) := tuck V4.out.set
      replace V5 := tuck (V5.out.far3 q54 0 1 2 (.int .i64 P.kind) (.int .i64 P.num) (.slice a0 P.kids.length n0))
      replace V6 := tuck (V6.out.far3 q64 0 1 2 (.int .i64 P.kind) (.int .i64 P.num) (.slice a0 P.kids.length n0))
      replace V7 := tuck (V7.out.far3 q74 0 1 2 (.int .i64 P.kind) (.int .i64 P.num) (.slice a0 P.kids.length n0))
      clear V4
      generalize (((w4.setCell ⟨g4, 0, none⟩ (.int .i64 P.kind)).setCell ⟨g4, 1, none⟩ (.int .i64 P.num)).setCell ⟨g4, 2, none⟩ (.slice a0 P.kids.length n0)) = v4 at *
      replace hS1 := hS1'
      clear hS1'
      obtain ⟨z5, f0, f1, f2, ff⟩ := V5.out.facts
      refine AnyTwo.step (i := 24) (o := ⟨none, _, _, _, _, _⟩) (by kernel_rfl) rfl (fun K hK => ?_)
      go_simp
      have hS1' := bSet3 hS1 HG5.out 0 1 2 (.int .i64 Z.kind) (.int .i64 Z.num) (.slice a1 Z.kids.length n1)
      refine hK.out _ _ (ph_one (by kernel_rfl) hS1') ?_
      clear hK K f0 f1 f2 ff
      replace V4' := tuck (V4'.out.far3 q45 0 1 2 (.int .i64 Z.kind) (.int .i64 Z.num) (.slice a1 Z.kids.length n1))
      have V5' : Hid (VarAt g5 Z.kind Z.num (.slice a1 Z.kids.length n1) (((v4.setCell ⟨g5, 0, none⟩ (.int .i64 Z.kind)).setCell ⟨g5, 1, none⟩ (.int .i64 Z.num)).setCell ⟨g5, 2, none⟩ (.slice a1 Z.kids.length n1))) := tuck V5.out.set
      replace V6 := tuck (V6.out.far3 q65 0 1 2 (.int .i64 Z.kind) (.int .i64 Z.num) (.slice a1 Z.kids.length n1))
      replace V7 := tuck (V7.out.far3 q75 0 1 2 (.int .i64 Z.kind) (.int .i64 Z.num) (.slice a1 Z.kids.length n1))
      clear V5
      generalize (((v4.setCell ⟨g5, 0, none⟩ (.int .i64 Z.kind)).setCell ⟨g5, 1, none⟩ (.int .i64 Z.num)).setCell ⟨g5, 2, none⟩ (.slice a1 Z.kids.length n1)) = v5 at *
      replace hS1 := hS1'
      clear hS1'
      obtain ⟨z6, f0, f1, f2, ff⟩ := V6.out.facts
      refine AnyTwo.step (i := 25) (o := ⟨none, _, _, _, _, _⟩) (by kernel_rfl) rfl (fun K hK => ?_)
      go_simp
      have hS1' := bSet3 hS1 HG6.out 0 1 2 (.int .i64 S.kind) (.int .i64 S.num) (.slice a2 S.kids.length n2)
      refine hK.out _ _ (ph_one (by kernel_rfl) hS1') ?_
      clear hK K f0 f1 f2 ff
      replace V4' := tuck (V4'.out.far3 q46 0 1 2 (.int .i64 S.kind) (.int .i64 S.num) (.slice a2 S.kids.length n2))
      replace V5' := tuck (V5'.out.far3 q56 0 1 2 (.int .i64 S.kind) (.int .i64 S.num) (.slice a2 S.kids.length n2))
      have V6' : Hid (VarAt g6 S.kind S.num (.slice a2 S.kids.length n2) (((v5.setCell ⟨g6, 0, none⟩ (.int .i64 S.kind)).setCell ⟨g6, 1, none⟩ (.int .i64 S.num)).setCell ⟨g6, 2, none⟩ (.slice a2 S.kids.length n2))) := tuck V6.out.set
      replace V7 := tuck (V7.out.far3 q76 0 1 2 (.int .i64 S.kind) (.int .i64 S.num) (.slice a2 S.kids.length n2))
      clear V6
      generalize (((v5.setCell ⟨g6, 0, none⟩ (.int .i64 S.kind)).setCell ⟨g6, 1, none⟩ (.int .i64 S.num)).setCell ⟨g6, 2, none⟩ (.slice a2 S.kids.length n2)) = v6 at *
      replace hS1 := hS1'
      clear hS1'
      obtain ⟨z7, f0, f1, f2, ff⟩ := V7.out.facts
      refine AnyTwo.step (i := 26) (o := ⟨none, _, _, _, _, _⟩) (by kernel_rfl) rfl (fun K hK => ?_)
      go_simp
      have hS1' := bSet3 hS1 HG7.out 0 1 2 (.int .i64 B.kind) (.int .i64 B.num) (.slice a4 B.kids.length n4)
      refine hK.out _ _ (ph_end (by kernel_rfl) hS1') ?_
      clear hK K f0 f1 f2 ff
      replace V4' := tuck (V4'.out.far3 q47 0 1 2 (.int .i64 B.kind) (.int .i64 B.num) (.slice a4 B.kids.length n4))
      replace V5' := tuck (V5'.out.far3 q57 0 1 2 (.int .i64 B.kind) (.int .i64 B.num) (.slice a4 B.kids.length n4))
      replace V6' := tuck (V6'.out.far3 q67 0 1 2 (.int .i64 B.kind) (.int .i64 B.num) (.slice a4 B.kids.length n4))
      have V7' : Hid (VarAt g7 B.kind B.num (.slice a4 B.kids.length n4) (((v6.setCell ⟨g7, 0, none⟩ (.int .i64 B.kind)).setCell ⟨g7, 1, none⟩ (.int .i64 B.num)).setCell ⟨g7, 2, none⟩ (.slice a4 B.kids.length n4))) := tuck V7.out.set
      clear V7
      generalize (((v6.setCell ⟨g7, 0, none⟩ (.int .i64 B.kind)).setCell ⟨g7, 1, none⟩ (.int .i64 B.num)).setCell ⟨g7, 2, none⟩ (.slice a4 B.kids.length n4)) = v7 at *
      replace hS1 := hS1'
      clear hS1'
      refine AnyTwo.done (by kernel_rfl) ?_ _
      go_wp2_with fail
      go_meet
      exact ⟨g4, g5, g6, g7, rfl, rfl, rfl, rfl, hS1, V4'.out, V5'.out, V6'.out, V7'.out⟩
   ·go_simp
    have hS1' := bAfter hS1 (below1 w1 (.cells #[.int .i64 0, .int .i64 0, .slice none 0 0] 29))
    refine hK.out _ _ (ph_one (by kernel_rfl) hS1') ?_
    clear hK K
    have V5 := tuck (VarAt.new w1 0 0 (.slice none 0 0))
    have HG5 : Hid (W0.heap.size ≤ w1.heap.size) := tuck hS1.size
    replace V7 := tuck (V7.out.below (below1 w1 (.cells #[.int .i64 0, .int .i64 0, .slice none 0 0] 29)))
    have N5 : Hid (g7 < w1.heap.size) := tuck HL7.out
    replace HL7 := tuck (Nat.lt_of_lt_of_le HL7.out (below1 w1 (.cells #[.int .i64 0, .int .i64 0, .slice none 0 0] 29)).size)
    have HL5 : Hid (w1.heap.size < (w1.alloc (.cells #[.int .i64 0, .int .i64 0, .slice none 0 0] 29)).heap.size) := tuck V5.out.facts.1
    try simp only [Act.put, List.setIfInBounds_toArray, List.set_cons_zero, List.set_cons_succ]
    generalize (w1.alloc (.cells #[.int .i64 0, .int .i64 0, .slice none 0 0] 29)) = w2 at *
    generalize w1.heap.size = g5 at *
    replace hS1 := hS1'
    clear hS1'
    refine AnyTwo.fork (i := 19) (j := 21) (o := ⟨some 4, _, _, _, _, _⟩) (o' := ⟨some 6, _, _, _, _, _⟩) (by kernel_rfl) rfl rfl (fun K hK => ?_) (fun K hK => ?_)
    ·go_simp
     have hS1' := bAfter hS1 (below1 w2 (.cells #[.int .i64 0, .int .i64 0, .slice none 0 0] 29))
     refine hK.out _ _ (ph_one (by kernel_rfl) hS1') ?_
     clear hK K
     have V4 := tuck (VarAt.new w2 0 0 (.slice none 0 0))
     have HG4 : Hid (W0.heap.size ≤ w2.heap.size) := tuck hS1.size
     replace V7 := tuck (V7.out.below (below1 w2 (.cells #[.int .i64 0, .int .i64 0, .slice none 0 0] 29)))
     replace V5 := tuck (V5.out.below (below1 w2 (.cells #[.int .i64 0, .int .i64 0, .slice none 0 0] 29)))
     have N4 : Hid (g7 < w2.heap.size ∧ g5 < w2.heap.size) := tuck ⟨HL7.out, HL5.out⟩
     replace HL7 := tuck (Nat.lt_of_lt_of_le HL7.out (below1 w2 (.cells #[.int .i64 0, .int .i64 0, .slice none 0 0] 29)).size)
     replace HL5 := tuck (Nat.lt_of_lt_of_le HL5.out (below1 w2 (.cells #[.int .i64 0, .int .i64 0, .slice none 0 0] 29)).size)
     have HL4 : Hid (w2.heap.size < (w2.alloc (.cells #[.int .i64 0, .int .i64 0, .slice none 0 0] 29)).heap.size) := tuck V4.out.facts.1
     try simp only [Act.put, List.setIfInBounds_toArray, List.set_cons_zero, List.set_cons_succ]
     generalize (w2.alloc (.cells #[.int .i64 0, .int .i64 0, .slice none 0 0] 29)) = w3 at *
     generalize w2.heap.size = g4 at *
     replace hS1 := hS1'
     clear hS1'
     refine AnyTwo.step (i := 21) (o := ⟨some 6, _, _, _, _, _⟩) (by kernel_rfl) rfl (fun K hK => ?_)
     ·go_simp
      have hS1' := bAfter hS1 (below1 w3 (.cells #[.int .i64 0, .int .i64 0, .slice none 0 0] 29))
      refine hK.out _ _ (ph_one (by kernel_rfl) hS1') ?_
      clear hK K
      have V6 := tuck (VarAt.new w3 0 0 (.slice none 0 0))
      have HG6 : Hid (W0.heap.size ≤ w3.heap.size) := tuck hS1.size
      replace V7 := tuck (V7.out.below (below1 w3 (.cells #[.int .i64 0, .int .i64 0, .slice none 0 0] 29)))
      replace V5 := tuck (V5.out.below (below1 w3 (.cells #[.int .i64 0, .int .i64 0, .slice none 0 0] 29)))
      replace V4 := tuck (V4.out.below (below1 w3 (.cells #[.int .i64 0, .int .i64 0, .slice none 0 0] 29)))
      have N6 : Hid (g7 < w3.heap.size ∧ g5 < w3.heap.size ∧ g4 < w3.heap.size) := tuck ⟨HL7.out, HL5.out, HL4.out⟩
      replace HL7 := tuck (Nat.lt_of_lt_of_le HL7.out (below1 w3 (.cells #[.int .i64 0, .int .i64 0, .slice none 0 0] 29)).size)
      replace HL5 := tuck (Nat.lt_of_lt_of_le HL5.out (below1 w3 (.cells #[.int .i64 0, .int .i64 0, .slice none 0 0] 29)).size)
      replace HL4 := tuck (Nat.lt_of_lt_of_le HL4.out (below1 w3 (.cells #[.int .i64 0, .int .i64 0, .slice none 0 0] 29)).size)
      have HL6 : Hid (w3.heap.size < (w3.alloc (.cells #[.int .i64 0, .int .i64 0, .slice none 0 0] 29)).heap.size) := tuck V6.out.facts.1
      try simp only [Act.put, List.setIfInBounds_toArray, List.set_cons_zero, List.set_cons_succ]
      generalize (w3.alloc (.cells #[.int .i64 0, .int .i64 0, .slice none 0 0] 29)) = w4 at *
      generalize w3.heap.size = g6 at *
      replace hS1 := hS1'
      clear hS1'
      have q75 : g7 ≠ g5 := Nat.ne_of_lt (N5.out)
      have q57 : g5 ≠ g7 := Ne.symm q75
      have q74 : g7 ≠ g4 := Nat.ne_of_lt (N4.out.1)
      have q47 : g4 ≠ g7 := Ne.symm q74
      have q54 : g5 ≠ g4 := Nat.ne_of_lt (N4.out.2)
      have q45 : g4 ≠ g5 := Ne.symm q54
      have q76 : g7 ≠ g6 := Nat.ne_of_lt (N6.out.1)
      have q67 : g6 ≠ g7 := Ne.symm q76
      have q56 : g5 ≠ g6 := Nat.ne_of_lt (N6.out.2.1)
      have q65 : g6 ≠ g5 := Ne.symm q56
      have q46 : g4 ≠ g6 := Nat.ne_of_lt (N6.out.2.2)
      have q64 : g6 ≠ g4 := Ne.symm q46
      obtain ⟨z4, f0, f1, f2, ff⟩ := V4.out.facts
      refine AnyTwo.step (i := 23) (o := ⟨none, _, _, _, _, _⟩) (by kernel_rfl) rfl (fun K hK => ?_)
      go_simp
      have hS1' := bSet3 hS1 HG4.out 0 1 2 (.int .i64 P.kind) (.int .i64 P.num) (.slice a0 P.kids.length n0)
      refine hK.out _ _ (ph_one (by kernel_rfl) hS1') ?_
      clear hK K f0 f1 f2 ff
      have V4' : Hid (VarAt g4 P.kind P.num (.slice a0 P.kids.length n0) (((w4.setCell ⟨g4, 0, none⟩ (.int .i64 P.kind)).setCell ⟨g4, 1, none⟩ (.int .i64 P.num)).setCell ⟨g4, 2, none⟩ (.slice a0 P.kids.length n0))) := tuck V4.out.set
      replace V5 := tuck (V5.out.far3 q54 0 1 2 (.int .i64 P.kind) (.int .i64 P.num) (.slice a0 P.kids.length n0))
      replace V6 := tuck (V6.out.far3 q64 0 1 2 (.int .i64 P.kind) (.int .i64 P.num) (.slice a0 P.kids.length n0))
      replace V7 := tuck (V7.out.far3 q74 0 1 2 (.int .i64 P.kind) (.int .i64 P.num) (.slice a0 P.kids.length n0))
      clear V4
      generalize (((w4.setCell ⟨g4, 0, none⟩ (.int .i64 P.kind)).setCell ⟨g4, 1, none⟩ (.int .i64 P.num)).setCell ⟨g4, 2, none⟩ (.slice a0 P.kids.length n0)) = v4 at *
      replace hS1 := hS1'
      clear hS1'
      obtain ⟨z5, f0, f1, f2, ff⟩ := V5.out.facts
      refine AnyTwo.step (i := 24) (o := ⟨none, _, _, _, _, _⟩) (by kernel_rfl) rfl (fun K hK => ?_)
      go_simp
      have hS1' := bSet3 hS1 HG5.out 0 1 2 (.int .i64 Z.kind) (.int .i64 Z.num) (.slice a1 Z.kids.length n1)
      refine hK.out _ _ (ph_one (by kernel_rfl) hS1') ?_
      clear hK K f0 f1 f2 ff
      replace V4' := tuck (V4'.out.far3 q45 0 1 2 (.int .i64 Z.kind) (.int .i64 Z.num) (.slice a1 Z.kids.length n1))
      have V5' : Hid (VarAt g5 Z.kind Z.num (.slice a1 Z.kids.length n1) (((v4.setCell ⟨g5, 0, none⟩ (.int .i64 Z.kind)).setCell ⟨g5, 1, none⟩ (.int .i64 Z.num)).setCell ⟨g5, 2, none⟩ (.slice a1 Z.kids.length n1))) := tuck V5.out.set
      replace V6 := tuck (V6.out.far3 q65 0 1 2 (.int .i64 Z.kind) (.int .i64 Z.num) (.slice a1 Z.kids.length n1))
      replace V7 := tuck (V7.out.far3 q75 0 1 2 (.int .i64 Z.kind) (.int .i64 Z.num) (.slice a1 Z.kids.length n1))
      clear V5
      generalize (((v4.setCell ⟨g5, 0, none⟩ (.int .i64 Z.kind)).setCell ⟨g5, 1, none⟩ (.int .i64 Z.num)).setCell ⟨g5, 2, none⟩ (.slice a1 Z.kids.length n1)) = v5 at *
      replace hS1 := hS1'
      clear hS1'
      obtain ⟨z6, f0, f1, f2, ff⟩ := V6.out.facts
      refine AnyTwo.step (i := 25) (o := ⟨none, _, _, _, _, _⟩) (by kernel_rfl) rfl (fun K hK => ?_)
      go_simp
      have hS1' := bSet3 hS1 HG6.out 0 1 2 (.int .i64 S.kind) (.int .i64 S.num) (.slice a2 S.kids.length n2)
      refine hK.out _ _ (ph_one (by kernel_rfl) hS1') ?_
      clear hK K f0 f1 f2 ff
      replace V4' := tuck (V4'.out.far3 q46 0 1 2 (.int .i64 S.kind) (.int .i64 S.num) (.slice a2 S.kids.length n2))
      replace V5' := tuck (V5'.out.far3 q56 0 1 2 (.int .i64 S.kind) (.int .i64 S.num) (.slice a2 S.kids.length n2))
      have V6' : Hid (VarAt g6 S.kind S.num (.slice a2 S.kids.length n2) (((v5.setCell ⟨g6, 0, none⟩ (.int .i64 S.kind)).setCell ⟨g6, 1, none⟩ (.int .i64 S.num)).setCell ⟨g6, 2, none⟩ (.slice a2 S.kids.length n2))) := tuck V6.out.set
      replace V7 := tuck (V7.out.far3 q76 0 1 2 (.int .i64 S.kind) (.int .i64 S.num) (.slice a2 S.kids.length n2))
      clear V6
      generalize (((v5.setCell ⟨g6, 0, none⟩ (.int .i64 S.kind)).setCell ⟨g6, 1, none⟩ (.int .i64 S.num)).setCell ⟨g6, 2, none⟩ (.slice a2 S.kids.length n2)) = v6 at *
      replace hS1 := hS1'
      clear hS1'
      obtain ⟨z7, f0, f1, f2, ff⟩ := V7.out.facts
      refine AnyTwo.step (i := 26) (o := ⟨none, _, _, _, _, _⟩) (by kernel_rfl) rfl (fun K hK => ?_)
      go_simp
      have hS1' := bSet3 hS1 HG7.out 0 1 2 (.int .i64 B.kind) (.int .i64 B.num) (.slice a4 B.kids.length n4)
      refine hK.out _ _ (ph_end (by kernel_rfl) hS1') ?_
      clear hK K f0 f1 f2 ff
      replace V4' := tuck (V4'.out.far3 q47 0 1 2 (.int .i64 B.kind) (.int .i64 B.num) (.slice a4 B.kids.length n4))
      replace V5' := tuck (V5'.out.far3 q57 0 1 2 (.int .i64 B.kind) (.int .i64 B.num) (.slice a4 B.kids.length n4))
      replace V6' := tuck (V6'.out.far3 q67 0 1 2 (.int .i64 B.kind) (.int .i64 B.num) (.slice a4 B.kids.length n4))
      have V7' : Hid (VarAt g7 B.kind B.num (.slice a4 B.kids.length n4) (((v6.setCell ⟨g7, 0, none⟩ (.int .i64 B.kind)).setCell ⟨g7, 1, none⟩ (.int .i64 B.num)).setCell ⟨g7, 2, none⟩ (.slice a4 B.kids.length n4))) := tuck V7.out.set
      clear V7
      generalize (((v6.setCell ⟨g7, 0, none⟩ (.int .i64 B.kind)).setCell ⟨g7, 1, none⟩ (.int .i64 B.num)).setCell ⟨g7, 2, none⟩ (.slice a4 B.kids.length n4)) = v7 at *
      replace hS1 := hS1'
      clear hS1'
      refine AnyTwo.done (by kernel_rfl) ?_ _
      go_wp2_with fail
      go_meet
      exact ⟨g4, g5, g6, g7, rfl, rfl, rfl, rfl, hS1, V4'.out, V5'.out, V6'.out, V7'.out⟩
    ·go_simp
     have hS1' := bAfter hS1 (below1 w2 (.cells #[.int .i64 0, .int .i64 0, .slice none 0 0] 29))
     refine hK.out _ _ (ph_one (by kernel_rfl) hS1') ?_
     clear hK K
     have V6 := tuck (VarAt.new w2 0 0 (.slice none 0 0))
     have HG6 : Hid (W0.heap.size ≤ w2.heap.size) := tuck hS1.size
     replace V7 := tuck (V7.out.below (below1 w2 (.cells #[.int .i64 0, .int .i64 0, .slice none 0 0] 29)))
     replace V5 := tuck (V5.out.below (below1 w2 (.cells #[.int .i64 0, .int .i64 0, .slice none 0 0] 29)))
     have N6 : Hid (g7 < w2.heap.size ∧ g5 < w2.heap.size) := tuck ⟨HL7.out, HL5.out⟩
     replace HL7 := tuck (Nat.lt_of_lt_of_le HL7.out (below1 w2 (.cells #[.int .i64 0, .int .i64 0, .slice none 0 0] 29)).size)
     replace HL5 := tuck (Nat.lt_of_lt_of_le HL5.out (below1 w2 (.cells #[.int .i64 0, .int .i64 0, .slice none 0 0] 29)).size)
     have HL6 : Hid (w2.heap.size < (w2.alloc (.cells #[.int .i64 0, .int .i64 0, .slice none 0 0] 29)).heap.size) := tuck V6.out.facts.1
     try simp only [Act.put, List.setIfInBounds_toArray, List.set_cons_zero, List.set_cons_succ]
     generalize (w2.alloc (.cells #[.int .i64 0, .int .i64 0, .slice none 0 0] 29)) = w3 at *
     generalize w2.heap.size = g6 at *
     replace hS1 := hS1'
     clear hS1'
     refine AnyTwo.step (i := 19) (o := ⟨some 4, _, _, _, _, _⟩) (by kernel_rfl) rfl (fun K hK => ?_)
     ·go_simp
      have hS1' := bAfter hS1 (below1 w3 (.cells #[.int .i64 0, .int .i64 0, .slice none 0 0] 29))
      refine hK.out _ _ (ph_one (by kernel_rfl) hS1') ?_
      clear hK K
      have V4 := tuck (VarAt.new w3 0 0 (.slice none 0 0))
      have HG4 : Hid (W0.heap.size ≤ w3.heap.size) := tuck hS1.size
      replace V7 := tuck (V7.out.below (below1 w3 (.cells #[.int .i64 0, .int .i64 0, .slice none 0 0] 29)))
      replace V5 := tuck (V5.out.below (below1 w3 (.cells #[.int .i64 0, .int .i64 0, .slice none 0 0] 29)))
      replace V6 := tuck (V6.out.below (below1 w3 (.cells #[.int .i64 0, .int .i64 0, .slice none 0 0] 29)))
      have N4 : Hid (g7 < w3.heap.size ∧ g5 < w3.heap.size ∧ g6 < w3.heap.size) := tuck ⟨HL7.out, HL5.out, HL6.out⟩
      replace HL7 := tuck (Nat.lt_of_lt_of_le HL7.out (below1 w3 (.cells #[.int .i64 0, .int .i64 0, .slice none 0 0] 29)).size)
      replace HL5 := tuck (Nat.lt_of_lt_of_le HL5.out (below1 w3 (.cells #[.int .i64 0, .int .i64 0, .slice none 0 0] 29)).size)
      replace HL6 := tuck (Nat.lt_of_lt_of_le HL6.out (below1 w3 (.cells #[.int .i64 0, .int .i64 0, .slice none 0 0] 29)).size)
      have HL4 : Hid (w3.heap.size < (w3.alloc (.cells #[.int .i64 0, .int .i64 0, .slice none 0 0] 29)).heap.size) := tuck V4.out.facts.1
      try simp only [Act.put, List.setIfInBounds_toArray, List.set_cons_zero, List.set_cons_succ]
      generalize (w3.alloc (.cells #[.int .i64 0, .int .i64 0, .slice none 0 0] 29)) = w4 at *
      generalize w3.heap.size = g4 at *
      replace hS1 := hS1'
      clear hS1'
      have q75 : g7 ≠ g5 := Nat.ne_of_lt (N5.out)
      have q57 : g5 ≠ g7 := Ne.symm q75
      have q76 : g7 ≠ g6 := Nat.ne_of_lt (N6.out.1)
      have q67 : g6 ≠ g7 := Ne.symm q76
      have q56 : g5 ≠ g6 := Nat.ne_of_lt (N6.out.2)
      have q65 : g6 ≠ g5 := Ne.symm q56
      have q74 : g7 ≠ g4 := Nat.ne_of_lt (N4.out.1)
      have q47 : g4 ≠ g7 := Ne.symm q74
      have q54 : g5 ≠ g4 := Nat.ne_of_lt (N4.out.2.1)
      have q45 : g4 ≠ g5 := Ne.symm q54
      have q64 : g6 ≠ g4 := Nat.ne_of_lt (N4.out.2.2)
      have q46 : g4 ≠ g6 := Ne.symm q64
      obtain ⟨z4, f0, f1, f2, ff⟩ := V4.out.facts
      refine AnyTwo.step (i := 23) (o := ⟨none, _, _, _, _, _⟩) (by kernel_rfl) rfl (fun K hK => ?_)
      go_simp
      have hS1' := bSet3 hS1 HG4.out 0 1 2 (.int .i64 P.kind) (.int .i64 P.num) (.slice a0 P.kids.length n0)
      refine hK.out _ _ (ph_one (by kernel_rfl) hS1') ?_
      clear hK K f0 f1 f2 ff
      have V4' : Hid (VarAt g4 P.kind P.num (.slice a0 P.kids.length n0) (((w4.setCell ⟨g4, 0, none⟩ (.int .i64 P.kind)).setCell ⟨g4, 1, none⟩ (.int .i64 P.num)).setCell ⟨g4, 2, none⟩ (.slice a0 P.kids.length n0))) := tuck V4.out.set
      replace V5 := tuck (V5.out.far3 q54 0 1 2 (.int .i64 P.kind) (.int .i64 P.num) (.slice a0 P.kids.length n0))
      replace V6 := tuck (V6.out.far3 q64 0 1 2 (.int .i64 P.kind) (.int .i64 P.num) (.slice a0 P.kids.length n0))
      replace V7 := tuck (V7.out.far3 q74 0 1 2 (.int .i64 P.kind) (.int .i64 P.num) (.slice a0 P.kids.length n0))
      clear V4
      generalize (((w4.setCell ⟨g4, 0, none⟩ (.int .i64 P.kind)).setCell ⟨g4, 1, none⟩ (.int .i64 P.num)).setCell ⟨g4, 2, none⟩ (.slice a0 P.kids.length n0)) = v4 at *
      replace hS1 := hS1'
      clear hS1'
      obtain ⟨z5, f0, f1, f2, ff⟩ := V5.out.facts
      refine AnyTwo.step (i := 24) (o := ⟨none, _, _, _, _, _⟩) (by kernel_rfl) rfl (fun K hK => ?_)
      go_simp
      have hS1' := bSet3 hS1 HG5.out 0 1 2 (.int .i64 Z.kind) (.int .i64 Z.num) (.slice a1 Z.kids.length n1)
      refine hK.out _ _ (ph_one (by kernel_rfl) hS1') ?_
      clear hK K f0 f1 f2 ff
      replace V4' := tuck (V4'.out.far3 q45 0 1 2 (.int .i64 Z.kind) (.int .i64 Z.num) (.slice a1 Z.kids.length n1))
      have V5' : Hid (VarAt g5 Z.kind Z.num (.slice a1 Z.kids.length n1) (((v4.setCell ⟨g5, 0, none⟩ (.int .i64 Z.kind)).setCell ⟨g5, 1, none⟩ (.int .i64 Z.num)).setCell ⟨g5, 2, none⟩ (.slice a1 Z.kids.length n1))) := tuck V5.out.set
      replace V6 := tuck (V6.out.far3 q65 0 1 2 (.int .i64 Z.kind) (.int .i64 Z.num) (.slice a1 Z.kids.length n1))
      replace V7 := tuck (V7.out.far3 q75 0 1 2 (.int .i64 Z.kind) (.int .i64 Z.num) (.slice a1 Z.kids.length n1))
      clear V5
      generalize (((v4.setCell ⟨g5, 0, none⟩ (.int .i64 Z.kind)).setCell ⟨g5, 1, none⟩ (.int .i64 Z.num)).setCell ⟨g5, 2, none⟩ (.slice a1 Z.kids.length n1)) = v5 at *
      replace hS1 := hS1'
      clear hS1'
      obtain ⟨z6, f0, f1, f2, ff⟩ := V6.out.facts
      refine AnyTwo.step (i := 25) (o := ⟨none, _, _, _, _, _⟩) (by kernel_rfl) rfl (fun K hK => ?_)
      go_simp
      have hS1' := bSet3 hS1 HG6.out 0 1 2 (.int .i64 S.kind) (.int .i64 S.num) (.slice a2 S.kids.length n2)
      refine hK.out _ _ (ph_one (by kernel_rfl) hS1') ?_
      clear hK K f0 f1 f2 ff
      replace V4' := tuck (V4'.out.far3 q46 0 1 2 (.int .i64 S.kind) (.int .i64 S.num) (.slice a2 S.kids.length n2))
      replace V5' := tuck (V5'.out.far3 q56 0 1 2 (.int .i64 S.kind) (.int .i64 S.num) (.slice a2 S.kids.length n2))
      have V6' : Hid (VarAt g6 S.kind S.num (.slice a2 S.kids.length n2) (((v5.setCell ⟨g6, 0, none⟩ (.int .i64 S.kind)).setCell ⟨g6, 1, none⟩ (.int .i64 S.num)).setCell ⟨g6, 2, none⟩ (.slice a2 S.kids.length n2))) := tuck V6.out.set
      replace V7 := tuck (V7.out.far3 q76 0 1 2 (.int .i64 S.kind) (.int .i64 S.num) (.slice a2 S.kids.length n2))
      clear V6
      generalize (((v5.setCell ⟨g6, 0, none⟩ (.int .i64 S.kind)).setCell ⟨g6, 1, none⟩ (.int .i64 S.num)).setCell ⟨g6, 2, none⟩ (.slice a2 S.kids.length n2)) = v6 at *
      replace hS1 := hS1'
      clear hS1'
      obtain ⟨z7, f0, f1, f2, ff⟩ := V7.out.facts
      refine AnyTwo.step (i := 26) (o := ⟨none, _, _, _, _, _⟩) (by kernel_rfl) rfl (fun K hK => ?_)
      go_simp
      have hS1' := bSet3 hS1 HG7.out 0 1 2 (.int .i64 B.kind) (.int .i64 B.num) (.slice a4 B.kids.length n4)
      refine hK.out _ _ (ph_end (by kernel_rfl) hS1') ?_
      clear hK K f0 f1 f2 ff
      replace V4' := tuck (V4'.out.far3 q47 0 1 2 (.int .i64 B.kind) (.int .i64 B.num) (.slice a4 B.kids.length n4))
      replace V5' := tuck (V5'.out.far3 q57 0 1 2 (.int .i64 B.kind) (.int .i64 B.num) (.slice a4 B.kids.length n4))
      replace V6' := tuck (V6'.out.far3 q67 0 1 2 (.int .i64 B.kind) (.int .i64 B.num) (.slice a4 B.kids.length n4))
      have V7' : Hid (VarAt g7 B.kind B.num (.slice a4 B.kids.length n4) (((v6.setCell ⟨g7, 0, none⟩ (.int .i64 B.kind)).setCell ⟨g7, 1, none⟩ (.int .i64 B.num)).setCell ⟨g7, 2, none⟩ (.slice a4 B.kids.length n4))) := tuck V7.out.set
      clear V7
      generalize (((v6.setCell ⟨g7, 0, none⟩ (.int .i64 B.kind)).setCell ⟨g7, 1, none⟩ (.int .i64 B.num)).setCell ⟨g7, 2, none⟩ (.slice a4 B.kids.length n4)) = v7 at *
      replace hS1 := hS1'
      clear hS1'
      refine AnyTwo.done (by kernel_rfl) ?_ _
      go_wp2_with fail
      go_meet
      exact ⟨g4, g5, g6, g7, rfl, rfl, rfl, rfl, hS1, V4'.out, V5'.out, V6'.out, V7'.out⟩
   ·go_simp
    have hS1' := bAfter hS1 (below1 w1 (.cells #[.int .i64 0, .int .i64 0, .slice none 0 0] 29))
    refine hK.out _ _ (ph_one (by kernel_rfl) hS1') ?_
    clear hK K
    have V6 := tuck (VarAt.new w1 0 0 (.slice none 0 0))
    have HG6 : Hid (W0.heap.size ≤ w1.heap.size) := tuck hS1.size
    replace V7 := tuck (V7.out.below (below1 w1 (.cells #[.int .i64 0, .int .i64 0, .slice none 0 0] 29)))
    have N6 : Hid (g7 < w1.heap.size) := tuck HL7.out
    replace HL7 := tuck (Nat.lt_of_lt_of_le HL7.out (below1 w1 (.cells #[.int .i64 0, .int .i64 0, .slice none 0 0] 29)).size)
    have HL6 : Hid (w1.heap.size < (w1.alloc (.cells #[.int .i64 0, .int .i64 0, .slice none 0 0] 29)).heap.size) := tuck V6.out.facts.1
    try simp only [Act.put, List.setIfInBounds_toArray, List.set_cons_zero, List.set_cons_succ]
    generalize (w1.alloc (.cells #[.int .i64 0, .int .i64 0, .slice none 0 0] 29)) = w2 at *
    generalize w1.heap.size = g6 at *
    replace hS1 := hS1'
    clear hS1'
    refine AnyTwo.fork (i := 19) (j := 20) (o := ⟨some 4, _, _, _, _, _⟩) (o' := ⟨some 5, _, _, _, _, _⟩) (by kernel_rfl) rfl rfl (fun K hK => ?_) (fun K hK => ?_)
    ·go_simp
     have hS1' := bAfter hS1 (below1 w2 (.cells #[.int .i64 0, .int .i64 0, .slice none 0 0] 29))
     refine hK.out _ _ (ph_one (by kernel_rfl) hS1') ?_
     clear hK K
     have V4 := tuck (VarAt.new w2 0 0 (.slice none 0 0))
     have HG4 : Hid (W0.heap.size ≤ w2.heap.size) := tuck hS1.size
     replace V7 := tuck (V7.out.below (below1 w2 (.cells #[.int .i64 0, .int .i64 0, .slice none 0 0] 29)))
     replace V6 := tuck (V6.out.below (below1 w2 (.cells #[.int .i64 0, .int .i64 0, .slice none 0 0] 29)))
     have N4 : Hid (g7 < w2.heap.size ∧ g6 < w2.heap.size) := tuck ⟨HL7.out, HL6.out⟩
     replace HL7 := tuck (Nat.lt_of_lt_of_le HL7.out (below1 w2 (.cells #[.int .i64 0, .int .i64 0, .slice none 0 0] 29)).size)
     replace HL6 := tuck (Nat.lt_of_lt_of_le HL6.out (below1 w2 (.cells #[.int .i64 0, .int .i64 0, .slice none 0 0] 29)).size)
     have HL4 : Hid (w2.heap.size < (w2.alloc (.cells #[.int .i64 0, .int .i64 0, .slice none 0 0] 29)).heap.size) := tuck V4.out.facts.1
     try simp only [Act.put, List.setIfInBounds_toArray, List.set_cons_zero, List.set_cons_succ]
     generalize (w2.alloc (.cells #[.int .i64 0, .int .i64 0, .slice none 0 0] 29)) = w3 at *
     generalize w2.heap.size = g4 at *
     replace hS1 := hS1'
     clear hS1'
     refine AnyTwo.step (i := 20) (o := ⟨some 5, _, _, _, _, _⟩) (by kernel_rfl) rfl (fun K hK => ?_)
     ·go_simp
      have hS1' := bAfter hS1 (below1 w3 (.cells #[.int .i64 0, .int .i64 0, .slice none 0 0] 29))
      refine hK.out _ _ (ph_one (by kernel_rfl) hS1') ?_
      clear hK K
      have V5 := tuck (VarAt.new w3 0 0 (.slice none 0 0))
      have HG5 : Hid (W0.heap.size ≤ w3.heap.size) := tuck hS1.size
      replace V7 := tuck (V7.out.below (below1 w3 (.cells #[.int .i64 0, .int .i64 0, .slice none 0 0] 29)))
      replace V6 := tuck (V6.out.below (below1 w3 (.cells #[.int .i64 0, .int .i64 0, .slice none 0 0] 29)))
      replace V4 := tuck (V4.out.below (below1 w3 (.cells #[.int .i64 0, .int .i64 0, .slice none 0 0] 29)))
      have N5 : Hid (g7 < w3.heap.size ∧ g6 < w3.heap.size ∧ g4 < w3.heap.size) := tuck ⟨HL7.out, HL6.out, HL4.out⟩
      replace HL7 := tuck (Nat.lt_of_lt_of_le HL7.out (below1 w3 (.cells #[.int .i64 0, .int .i64 0, .slice none 0 0] 29)).size)
      replace HL6 := tuck (Nat.lt_of_lt_of_le HL6.out (below1 w3 (.cells #[.int .i64 0, .int .i64 0, .slice none 0 0] 29)).size)
      replace HL4 := tuck (Nat.lt_of_lt_of_le HL4.out (below1 w3 (.cells #[.int .i64 0, .int .i64 0, .slice none 0 0] 29)).size)
      have HL5 : Hid (w3.heap.size < (w3.alloc (.cells #[.int .i64 0, .int .i64 0, .slice none 0 0] 29)).heap.size) := tuck V5.out.facts.1
      try simp only [Act.put, List.setIfInBounds_toArray, List.set_cons_zero, List.set_cons_succ]
      generalize (w3.alloc (.cells #[.int .i64 0, .int .i64 0, .slice none 0 0] 29)) = w4 at *
      generalize w3.heap.size = g5 at *
      replace hS1 := hS1'
      clear hS1'
      have q76 : g7 ≠ g6 := Nat.ne_of_lt (N6.out)
      have q67 : g6 ≠ g7 := Ne.symm q76
      have q74 : g7 ≠ g4 := Nat.ne_of_lt (N4.out.1)
      have q47 : g4 ≠ g7 := Ne.symm q74
      have q64 : g6 ≠ g4 := Nat.ne_of_lt (N4.out.2)
      have q46 : g4 ≠ g6 := Ne.symm q64
      have q75 : g7 ≠ g5 := Nat.ne_of_lt (N5.out.1)
      have q57 : g5 ≠ g7 := Ne.symm q75
      have q65 : g6 ≠ g5 := Nat.ne_of_lt (N5.out.2.1)
      have q56 : g5 ≠ g6 := Ne.symm q65
      have q45 : g4 ≠ g5 := Nat.ne_of_lt (N5.out.2.2)
      have q54 : g5 ≠ g4 := Ne.symm q45
      obtain ⟨z4, f0, f1, f2, ff⟩ := V4.out.facts
      refine AnyTwo.step (i := 23) (o := ⟨none, _, _, _, _, _⟩) (by kernel_rfl) rfl (fun K hK => ?_)
      go_simp
      have hS1' := bSet3 hS1 HG4.out 0 1 2 (.int .i64 P.kind) (.int .i64 P.num) (.slice a0 P.kids.length n0)
      refine hK.out _ _ (ph_one (by kernel_rfl) hS1') ?_
      clear hK K f0 f1 f2 ff
      have V4' : Hid (VarAt g4 P.kind P.num (.slice a0 P.kids.length n0) (((w4.setCell ⟨g4, 0, none⟩ (.int .i64 P.kind)).setCell ⟨g4, 1, none⟩ (.int .i64 P.num)).setCell ⟨g4, 2, none⟩ (.slice a0 P.kids.length n0))) := tuck V4.out.set
      replace V5 := tuck (V5.out.far3 q54 0 1 2 (.int .i64 P.kind) (.int .i64 P.num) (.slice a0 P.kids.length n0))
      replace V6 := tuck (V6.out.far3 q64 0 1 2 (.int .i64 P.kind) (.int .i64 P.num) (.slice a0 P.kids.length n0))
      replace V7 := tuck (V7.out.far3 q74 0 1 2 (.int .i64 P.kind) (.int .i64 P.num) (.slice a0 P.kids.length n0))
      clear V4
      generalize (((w4.setCell ⟨g4, 0, none⟩ (.int .i64 P.kind)).setCell ⟨g4, 1, none⟩ (.int .i64 P.num)).setCell ⟨g4, 2, none⟩ (.slice a0 P.kids.length n0)) = v4 at *
      replace hS1 := hS1'
      clear hS1'
      obtain ⟨z5, f0, f1, f2, ff⟩ := V5.out.facts
      refine AnyTwo.step (i := 24) (o := ⟨none, _, _, _, _, _⟩) (by kernel_rfl) rfl (fun K hK => ?_)
      go_simp
      have hS1' := bSet3 hS1 HG5.out 0 1 2 (.int .i64 Z.kind) (.int .i64 Z.num) (.slice a1 Z.kids.length n1)
      refine hK.out _ _ (ph_one (by kernel_rfl) hS1') ?_
      clear hK K f0 f1 f2 ff
      replace V4' := tuck (V4'.out.far3 q45 0 1 2 (.int .i64 Z.kind) (.int .i64 Z.num) (.slice a1 Z.kids.length n1))
      have V5' : Hid (VarAt g5 Z.kind Z.num (.slice a1 Z.kids.length n1) (((v4.setCell ⟨g5, 0, none⟩ (.int .i64 Z.kind)).setCell ⟨g5, 1, none⟩ (.int .i64 Z.num)).setCell ⟨g5, 2, none⟩ (.slice a1 Z.kids.length n1))) := tuck V5.out.set
      replace V6 := tuck (V6.out.far3 q65 0 1 2 (.int .i64 Z.kind) (.int .i64 Z.num) (.slice a1 Z.kids.length n1))
      replace V7 := tuck (V7.out.far3 q75 0 1 2 (.int .i64 Z.kind) (.int .i64 Z.num) (.slice a1 Z.kids.length n1))
      clear V5
      generalize (((v4.setCell ⟨g5, 0, none⟩ (.int .i64 Z.kind)).setCell ⟨g5, 1, none⟩ (.int .i64 Z.num)).setCell ⟨g5, 2, none⟩ (.slice a1 Z.kids.length n1)) = v5 at *
      replace hS1 := hS1'
      clear hS1'
      obtain ⟨z6, f0, f1, f2, ff⟩ := V6.out.facts
      refine AnyTwo.step (i := 25) (o := ⟨none, _, _, _, _, _⟩) (by kernel_rfl) rfl (fun K hK => ?_)
      go_simp
      have hS1' := bSet3 hS1 HG6.out 0 1 2 (.int .i64 S.kind) (.int .i64 S.num) (.slice a2 S.kids.length n2)
      refine hK.out _ _ (ph_one (by kernel_rfl) hS1') ?_
      clear hK K f0 f1 f2 ff
      replace V4' := tuck (V4'.out.far3 q46 0 1 2 (.int .i64 S.kind) (.int .i64 S.num) (.slice a2 S.kids.length n2))
      replace V5' := tuck (V5'.out.far3 q56 0 1 2 (.int .i64 S.kind) (.int .i64 S.num) (.slice a2 S.kids.length n2))
      have V6' : Hid (VarAt g6 S.kind S.num (.slice a2 S.kids.length n2) (((v5.setCell ⟨g6, 0, none⟩ (.int .i64 S.kind)).setCell ⟨g6, 1, none⟩ (.int .i64 S.num)).setCell ⟨g6, 2, none⟩ (.slice a2 S.kids.length n2))) := tuck V6.out.set
      replace V7 := tuck (V7.out.far3 q76 0 1 2 (.int .i64 S.kind) (.int .i64 S.num) (.slice a2 S.kids.length n2))
      clear V6
      generalize (((v5.setCell ⟨g6, 0, none⟩ (.int .i64 S.kind)).setCell ⟨g6, 1, none⟩ (.int .i64 S.num)).setCell ⟨g6, 2, none⟩ (.slice a2 S.kids.length n2)) = v6 at *
      replace hS1 := hS1'
      clear hS1'
      obtain ⟨z7, f0, f1, f2, ff⟩ := V7.out.facts
      refine AnyTwo.step (i := 26) (o := ⟨none, _, _, _, _, _⟩) (by kernel_rfl) rfl (fun K hK => ?_)
      go_simp
      have hS1' := bSet3 hS1 HG7.out 0 1 2 (.int .i64 B.kind) (.int .i64 B.num) (.slice a4 B.kids.length n4)
      refine hK.out _ _ (ph_end (by kernel_rfl) hS1') ?_
      clear hK K f0 f1 f2 ff
      replace V4' := tuck (V4'.out.far3 q47 0 1 2 (.int .i64 B.kind) (.int .i64 B.num) (.slice a4 B.kids.length n4))
      replace V5' := tuck (V5'.out.far3 q57 0 1 2 (.int .i64 B.kind) (.int .i64 B.num) (.slice a4 B.kids.length n4))
      replace V6' := tuck (V6'.out.far3 q67 0 1 2 (.int .i64 B.kind) (.int .i64 B.num) (.slice a4 B.kids.length n4))
      have V7' : Hid (VarAt g7 B.kind B.num (.slice a4 B.kids.length n4) (((v6.setCell ⟨g7, 0, none⟩ (.int .i64 B.kind)).setCell ⟨g7, 1, none⟩ (.int .i64 B.num)).setCell ⟨g7, 2, none⟩ (.slice a4 B.kids.length n4))) := tuck V7.out.set
      clear V7
      generalize (((v6.setCell ⟨g7, 0, none⟩ (.int .i64 B.kind)).setCell ⟨g7, 1, none⟩ (.int .i64 B.num)).setCell ⟨g7, 2, none⟩ (.slice a4 B.kids.length n4)) = v7 at *
      replace hS1 := hS1'
      clear hS1'
      refine AnyTwo.done (by kernel_rfl) ?_ _
      go_wp2_with fail
      go_meet
      exact ⟨g4, g5, g6, g7, rfl, rfl, rfl, rfl, hS1, V4'.out, V5'.out, V6'.out, V7'.out⟩
    ·go_simp
     have hS1' := bAfter hS1 (below1 w2 (.cells #[.int .i64 0, .int .i64 0, .slice none 0 0] 29))
     refine hK.out _ _ (ph_one (by kernel_rfl) hS1') ?_
     clear hK K
     have V5 := tuck (VarAt.new w2 0 0 (.slice none 0 0))
     have HG5 : Hid (W0.heap.size ≤ w2.heap.size) := tuck hS1.size
     replace V7 := tuck (V7.out.below (below1 w2 (.cells #[.int .i64 0, .int .i64 0, .slice none 0 0] 29)))
     replace V6 := tuck (V6.out.below (below1 w2 (.cells #[.int .i64 0, .int .i64 0, .slice none 0 0] 29)))
     have N5 : Hid (g7 < w2.heap.size ∧ g6 < w2.heap.size) := tuck ⟨HL7.out, HL6.out⟩
     replace HL7 := tuck (Nat.lt_of_lt_of_le HL7.out (below1 w2 (.cells #[.int .i64 0, .int .i64 0, .slice none 0 0] 29)).size)
     replace HL6 := tuck (Nat.lt_of_lt_of_le HL6.out (below1 w2 (.cells #[.int .i64 0, .int .i64 0, .slice none 0 0] 29)).size)
     have HL5 : Hid (w2.heap.size < (w2.alloc (.cells #[.int .i64 0, .int .i64 0, .slice none 0 0] 29)).heap.size) := tuck V5.out.facts.1
     try simp only [Act.put, List.setIfInBounds_toArray, List.set_cons_zero, List.set_cons_succ]
     generalize (w2.alloc (.cells #[.int .i64 0, .int .i64 0, .slice none 0 0] 29)) = w3 at *
     generalize w2.heap.size = g5 at *
     replace hS1 := hS1'
     clear hS1'
     refine AnyTwo.step (i := 19) (o := ⟨some 4, _, _, _, _, _⟩) (by kernel_rfl) rfl (fun K hK => ?_)
     ·go_simp
      have hS1' := bAfter hS1 (below1 w3 (.cells #[.int .i64 0, .int .i64 0, .slice none 0 0] 29))
      refine hK.out _ _ (ph_one (by kernel_rfl) hS1') ?_
      clear hK K
      have V4 := tuck (VarAt.new w3 0 0 (.slice none 0 0))
      have HG4 : Hid (W0.heap.size ≤ w3.heap.size) := tuck hS1.size
      replace V7 := tuck (V7.out.below (below1 w3 (.cells #[.int .i64 0, .int .i64 0, .slice none 0 0] 29)))
      replace V6 := tuck (V6.out.below (below1 w3 (.cells #[.int .i64 0, .int .i64 0, .slice none 0 0] 29)))
      replace V5 := tuck (V5.out.below (below1 w3 (.cells #[.int .i64 0, .int .i64 0, .slice none 0 0] 29)))
      have N4 : Hid (g7 < w3.heap.size ∧ g6 < w3.heap.size ∧ g5 < w3.heap.size) := tuck ⟨HL7.out, HL6.out, HL5.out⟩
      replace HL7 := tuck (Nat.lt_of_lt_of_le HL7.out (below1 w3 (.cells #[.int .i64 0, .int .i64 0, .slice none 0 0] 29)).size)
      replace HL6 := tuck (Nat.lt_of_lt_of_le HL6.out (below1 w3 (.cells #[.int .i64 0, .int .i64 0, .slice none 0 0] 29)).size)
      replace HL5 := tuck (Nat.lt_of_lt_of_le HL5.out (below1 w3 (.cells #[.int .i64 0, .int .i64 0, .slice none 0 0] 29)).size)
      have HL4 : Hid (w3.heap.size < (w3.alloc (.cells #[.int .i64 0, .int .i64 0, .slice none 0 0] 29)).heap.size) := tuck V4.out.facts.1
      try simp only [Act.put, List.setIfInBounds_toArray, List.set_cons_zero, List.set_cons_succ]
      generalize (w3.alloc (.cells #[.int .i64 0, .int .i64 0, .slice none 0 0] 29)) = w4 at *
      generalize w3.heap.size = g4 at *
      replace hS1 := hS1'
      clear hS1'
      have q76 : g7 ≠ g6 := Nat.ne_of_lt (N6.out)
      have q67 : g6 ≠ g7 := Ne.symm q76
      have q75 : g7 ≠ g5 := Nat.ne_of_lt (N5.out.1)
      have q57 : g5 ≠ g7 := Ne.symm q75
      have q65 : g6 ≠ g5 := Nat.ne_of_lt (N5.out.2)
      have q56 : g5 ≠ g6 := Ne.symm q65
      have q74 : g7 ≠ g4 := Nat.ne_of_lt (N4.out.1)
      have q47 : g4 ≠ g7 := Ne.symm q74
      have q64 : g6 ≠ g4 := Nat.ne_of_lt (N4.out.2.1)
      have q46 : g4 ≠ g6 := Ne.symm q64
      have q54 : g5 ≠ g4 := Nat.ne_of_lt (N4.out.2.2)
      have q45 : g4 ≠ g5 := Ne.symm q54
      obtain ⟨z4, f0, f1, f2, ff⟩ := V4.out.facts
      refine AnyTwo.step (i := 23) (o := ⟨none, _, _, _, _, _⟩) (by kernel_rfl) rfl (fun K hK => ?_)
      go_simp
      have hS1' := bSet3 hS1 HG4.out 0 1 2 (.int .i64 P.kind) (.int .i64 P.num) (.slice a0 P.kids.length n0)
      refine hK.out _ _ (ph_one (by kernel_rfl) hS1') ?_
      clear hK K f0 f1 f2 ff
      have V4' : Hid (VarAt g4 P.kind P.num (.slice a0 P.kids.length n0) (((w4.setCell ⟨g4, 0, none⟩ (.int .i64 P.kind)).setCell ⟨g4, 1, none⟩ (.int .i64 P.num)).setCell ⟨g4, 2, none⟩ (.slice a0 P.kids.length n0))) := tuck V4.out.set
      replace V5 := tuck (V5.out.far3 q54 0 1 2 (.int .i64 P.kind) (.int .i64 P.num) (.slice a0 P.kids.length n0))
      replace V6 := tuck (V6.out.far3 q64 0 1 2 (.int .i64 P.kind) (.int .i64 P.num) (.slice a0 P.kids.length n0))
      replace V7 := tuck (V7.out.far3 q74 0 1 2 (.int .i64 P.kind) (.int .i64 P.num) (.slice a0 P.kids.length n0))
      clear V4
      generalize (((w4.setCell ⟨g4, 0, none⟩ (.int .i64 P.kind)).setCell ⟨g4, 1, none⟩ (.int .i64 P.num)).setCell ⟨g4, 2, none⟩ (.slice a0 P.kids.length n0)) = v4 at *
      replace hS1 := hS1'
      clear hS1'
      obtain ⟨z5, f0, f1, f2, ff⟩ := V5.out.facts
      refine AnyTwo.step (i := 24) (o := ⟨none, _, _, _, _, _⟩) (by kernel_rfl) rfl (fun K hK => ?_)
      go_simp
      have hS1' := bSet3 hS1 HG5.out 0 1 2 (.int .i64 Z.kind) (.int .i64 Z.num) (.slice a1 Z.kids.length n1)
      refine hK.out _ _ (ph_one (by kernel_rfl) hS1') ?_
      clear hK K f0 f1 f2 ff
      replace V4' := tuck (V4'.out.far3 q45 0 1 2 (.int .i64 Z.kind) (.int .i64 Z.num) (.slice a1 Z.kids.length n1))
      have V5' : Hid (VarAt g5 Z.kind Z.num (.slice a1 Z.kids.length n1) (((v4.setCell ⟨g5, 0, none⟩ (.int .i64 Z.kind)).setCell ⟨g5, 1, none⟩ (.int .i64 Z.num)).setCell ⟨g5, 2, none⟩ (.slice a1 Z.kids.length n1))) := tuck V5.out.set
      replace V6 := tuck (V6.out.far3 q65 0 1 2 (.int .i64 Z.kind) (.int .i64 Z.num) (.slice a1 Z.kids.length n1))
      replace V7 := tuck (V7.out.far3 q75 0 1 2 (.int .i64 Z.kind) (.int .i64 Z.num) (.slice a1 Z.kids.length n1))
      clear V5
      generalize (((v4.setCell ⟨g5, 0, none⟩ (.int .i64 Z.kind)).setCell ⟨g5, 1, none⟩ (.int .i64 Z.num)).setCell ⟨g5, 2, none⟩ (.slice a1 Z.kids.length n1)) = v5 at *
      replace hS1 := hS1'
      clear hS1'
      obtain ⟨z6, f0, f1, f2, ff⟩ := V6.out.facts
      refine AnyTwo.step (i := 25) (o := ⟨none, _, _, _, _, _⟩) (by kernel_rfl) rfl (fun K hK => ?_)
      go_simp
      have hS1' := bSet3 hS1 HG6.out 0 1 2 (.int .i64 S.kind) (.int .i64 S.num) (.slice a2 S.kids.length n2)
      refine hK.out _ _ (ph_one (by kernel_rfl) hS1') ?_
      clear hK K f0 f1 f2 ff
      replace V4' := tuck (V4'.out.far3 q46 0 1 2 (.int .i64 S.kind) (.int .i64 S.num) (.slice a2 S.kids.length n2))
      replace V5' := tuck (V5'.out.far3 q56 0 1 2 (.int .i64 S.kind) (.int .i64 S.num) (.slice a2 S.kids.length n2))
      have V6' : Hid (VarAt g6 S.kind S.num (.slice a2 S.kids.length n2) (((v5.setCell ⟨g6, 0, none⟩ (.int .i64 S.kind)).setCell ⟨g6, 1, none⟩ (.int .i64 S.num)).setCell ⟨g6, 2, none⟩ (.slice a2 S.kids.length n2))) := tuck V6.out.set
      replace V7 := tuck (V7.out.far3 q76 0 1 2 (.int .i64 S.kind) (.int .i64 S.num) (.slice a2 S.kids.length n2))
      clear V6
      generalize (((v5.setCell ⟨g6, 0, none⟩ (.int .i64 S.kind)).setCell ⟨g6, 1, none⟩ (.int .i64 S.num)).setCell ⟨g6, 2, none⟩ (.slice a2 S.kids.length n2)) = v6 at *
      replace hS1 := hS1'
      clear hS1'
      obtain ⟨z7, f0, f1, f2, ff⟩ := V7.out.facts
      refine AnyTwo.step (i := 26) (o := ⟨none, _, _, _, _, _⟩) (by kernel_rfl) rfl (fun K hK => ?_)
      go_simp
      have hS1' := bSet3 hS1 HG7.out 0 1 2 (.int .i64 B.kind) (.int .i64 B.num) (.slice a4 B.kids.length n4)
      refine hK.out _ _ (ph_end (by kernel_rfl) hS1') ?_
      clear hK K f0 f1 f2 ff
      replace V4' := tuck (V4'.out.far3 q47 0 1 2 (.int .i64 B.kind) (.int .i64 B.num) (.slice a4 B.kids.length n4))
      replace V5' := tuck (V5'.out.far3 q57 0 1 2 (.int .i64 B.kind) (.int .i64 B.num) (.slice a4 B.kids.length n4))
      replace V6' := tuck (V6'.out.far3 q67 0 1 2 (.int .i64 B.kind) (.int .i64 B.num) (.slice a4 B.kids.length n4))
      have V7' : Hid (VarAt g7 B.kind B.num (.slice a4 B.kids.length n4) (((v6.setCell ⟨g7, 0, none⟩ (.int .i64 B.kind)).setCell ⟨g7, 1, none⟩ (.int .i64 B.num)).setCell ⟨g7, 2, none⟩ (.slice a4 B.kids.length n4))) := tuck V7.out.set
      clear V7
      generalize (((v6.setCell ⟨g7, 0, none⟩ (.int .i64 B.kind)).setCell ⟨g7, 1, none⟩ (.int .i64 B.num)).setCell ⟨g7, 2, none⟩ (.slice a4 B.kids.length n4)) = v7 at *
      replace hS1 := hS1'
      clear hS1'
      refine AnyTwo.done (by kernel_rfl) ?_ _
      go_wp2_with fail
      go_meet
      exact ⟨g4, g5, g6, g7, rfl, rfl, rfl, rfl, hS1, V4'.out, V5'.out, V6'.out, V7'.out⟩
 case rest =>
  obtain ⟨g4, g5, g6, g7, rfl, rfl, rfl, rfl, hb, v4, v5, v6, v7⟩ := hcut
  rename World => W1
  obtain ⟨z4, e40, e41, e42, -⟩ := v4.facts
  obtain ⟨z5, e50, e51, e52, -⟩ := v5.facts
  obtain ⟨z6, e60, e61, e62, -⟩ := v6.facts
  obtain ⟨z7, e70, e71, e72, -⟩ := v7.facts
  have HBW := tuck (bAfter HBX.out hb)
  have HV1 := tuck (V1.out.below hb)
  have hlt1 : w.heap.size + 1 < W1.heap.size := Nat.lt_of_lt_of_le (by have := HBS.out; omega) hb.size
  clear hb v4 v5 v6 v7 d00 d01 d02 d10 d11 d12 d20 d21 d22 d30 d31 d32 d40 d41 d42 y2 z0 HCELLS
  have HSL : Hid (∀ W7 : World, Below w.heap.size w W7 → W7.heap[W1.heap.size]? = some (.cells #[.int .i64 P.kind, .int .i64 P.num, .slice a0 P.kids.length n0, .int .i64 Z.kind, .int .i64 Z.num, .slice a1 Z.kids.length n1, .int .i64 S.kind, .int .i64 S.num, .slice a2 S.kids.length n2, .int .i64 B.kind, .int .i64 B.num, .slice a4 B.kids.length n4] 29) → W7.heap[W1.heap.size + 1 + 1]? = some (.cells #[.int .i64 S.kind, .int .i64 S.num, .slice a2 S.kids.length n2, .int .i64 B.kind, .int .i64 B.num, .slice a4 B.kids.length n4] 29) → W7.heap[W1.heap.size + 1 + 1 + 1 + 1]? = some (.cells #[.int .i64 5, .int .i64 0, .slice (some ⟨W1.heap.size + 1 + 1, 0, none⟩) 2 2, .int .i64 9, .int .i64 0, .slice (some ⟨W1.heap.size, 0, none⟩) 4 4] 29) → SlX W7 X [.mk 5 0 [S, B], .mk 9 0 [P, Z, S, B]] (.slice (some ⟨W1.heap.size + 1 + 1 + 1 + 1, 0, none⟩) 2 2)) := tuck fun W7 hb7 q1 q2 q3 => by
   have hlt1' := hlt1
   have nx : ∀ i, W1.heap.size ≤ i → ¬ X i := fun i hi hx => by have := hX i hx; omega
   have k0 := hs0.below hb7
   have k1 := hs1.below hb7
   have k2 := hs2.below hb7
   have k4 := hs4.below hb7
   have r1 := SlX.of_block (rs := [(P, .slice a0 P.kids.length n0), (Z, .slice a1 Z.kids.length n1), (S, .slice a2 S.kids.length n2), (B, .slice a4 B.kids.length n4)]) (cap := 4) q1 (by simp [cellsL]) (nx _ (by omega)) (by simp [maxLen]) (fun x hx => by
    simp only [List.mem_cons, List.not_mem_nil, or_false] at hx
    rcases hx with rfl | rfl | rfl | rfl
    ·exact k0
    ·exact k1
    ·exact k2
    ·exact k4)
   have r2 := SlX.of_block (rs := [(S, .slice a2 S.kids.length n2), (B, .slice a4 B.kids.length n4)]) (cap := 2) q2 (by simp [cellsL]) (nx _ (by omega)) (by simp [maxLen]) (fun x hx => by
    simp only [List.mem_cons, List.not_mem_nil, or_false] at hx
    rcases hx with rfl | rfl
    ·exact k2
    ·exact k4)
   exact SlX.of_block (rs := [(.mk 5 0 [S, B], .slice (some ⟨W1.heap.size + 1 + 1, 0, none⟩) 2 2), (.mk 9 0 [P, Z, S, B], .slice (some ⟨W1.heap.size, 0, none⟩) 4 4)]) (cap := 2) q3 (by simp [cellsL, Tm.kind, Tm.num]) (nx _ (by omega)) (by simp [maxLen]) (fun x hx => by
    simp only [List.mem_cons, List.not_mem_nil, or_false] at hx
    rcases hx with rfl | rfl
    ·exact r2
    ·exact r1)
  have HHP : Hid (∀ (c : Bool) (W7 : World), c = tr (Tm.Valid (.mk 5 0 [.mk 5 0 [S, B], .mk 9 0 [P, Z, S, B]])) → Below w.heap.size w W7 → W7.heap[W1.heap.size]? = some (.cells #[.int .i64 P.kind, .int .i64 P.num, .slice a0 P.kids.length n0, .int .i64 Z.kind, .int .i64 Z.num, .slice a1 Z.kids.length n1, .int .i64 S.kind, .int .i64 S.num, .slice a2 S.kids.length n2, .int .i64 B.kind, .int .i64 B.num, .slice a4 B.kids.length n4] 29) → W7.heap[W1.heap.size + 1 + 1]? = some (.cells #[.int .i64 S.kind, .int .i64 S.num, .slice a2 S.kids.length n2, .int .i64 B.kind, .int .i64 B.num, .slice a4 B.kids.length n4] 29) → W7.heap[W1.heap.size + 1 + 1 + 1 + 1]? = some (.cells #[.int .i64 5, .int .i64 0, .slice (some ⟨W1.heap.size + 1 + 1, 0, none⟩) 2 2, .int .i64 9, .int .i64 0, .slice (some ⟨W1.heap.size, 0, none⟩) 4 4] 29) → post (.returned (.tuple #[.agg #[.int .i64 5, .int .i64 0, .slice (some ⟨W1.heap.size + 1 + 1 + 1 + 1, 0, none⟩) 2 2], .bool c])) W7) := tuck fun c W7 hc hb7 q1 q2 q3 => by
   rw [← hpost]
   exact ⟨hb7, .mk 5 0 [.mk 5 0 [S, B], .mk 9 0 [P, Z, S, B]], .slice (some ⟨W1.heap.size + 1 + 1 + 1 + 1, 0, none⟩) 2 2, by rw [hc]; rfl, HSL.out W7 hb7 q1 q2 q3, fun _ => rfl⟩
  clear hpost
  go_wp2_with fail
  have Q1 : Hid (((((((W1.alloc (.cells #[.int .i64 P.kind, .int .i64 P.num, .slice a0 P.kids.length n0, .int .i64 Z.kind, .int .i64 Z.num, .slice a1 Z.kids.length n1, .int .i64 S.kind, .int .i64 S.num, .slice a2 S.kids.length n2, .int .i64 B.kind, .int .i64 B.num, .slice a4 B.kids.length n4] 29)).alloc (.cells #[.int .i64 9, .int .i64 0, .slice (some ⟨W1.heap.size, 0, none⟩) 4 4] 29)).alloc (.cells #[.int .i64 S.kind, .int .i64 S.num, .slice a2 S.kids.length n2, .int .i64 B.kind, .int .i64 B.num, .slice a4 B.kids.length n4] 29)).alloc (.cells #[.int .i64 5, .int .i64 0, .slice (some ⟨W1.heap.size + 1 + 1, 0, none⟩) 2 2] 29)).alloc (.cells #[.int .i64 5, .int .i64 0, .slice (some ⟨W1.heap.size + 1 + 1, 0, none⟩) 2 2, .int .i64 9, .int .i64 0, .slice (some ⟨W1.heap.size, 0, none⟩) 4 4] 29)).alloc (.cells #[.int .i64 5, .int .i64 0, .slice (some ⟨W1.heap.size + 1 + 1 + 1 + 1, 0, none⟩) 2 2] 29)).heap[W1.heap.size]? = some (.cells #[.int .i64 P.kind, .int .i64 P.num, .slice a0 P.kids.length n0, .int .i64 Z.kind, .int .i64 Z.num, .slice a1 Z.kids.length n1, .int .i64 S.kind, .int .i64 S.num, .slice a2 S.kids.length n2, .int .i64 B.kind, .int .i64 B.num, .slice a4 B.kids.length n4] 29)) := tuck (heap_keep (heap_keep (heap_keep (heap_keep (heap_keep (heap_new W1 (.cells #[.int .i64 P.kind, .int .i64 P.num, .slice a0 P.kids.length n0, .int .i64 Z.kind, .int .i64 Z.num, .slice a1 Z.kids.length n1, .int .i64 S.kind, .int .i64 S.num, .slice a2 S.kids.length n2, .int .i64 B.kind, .int .i64 B.num, .slice a4 B.kids.length n4] 29)) _) _) _) _) _)
  have Q2 : Hid (((((((W1.alloc (.cells #[.int .i64 P.kind, .int .i64 P.num, .slice a0 P.kids.length n0, .int .i64 Z.kind, .int .i64 Z.num, .slice a1 Z.kids.length n1, .int .i64 S.kind, .int .i64 S.num, .slice a2 S.kids.length n2, .int .i64 B.kind, .int .i64 B.num, .slice a4 B.kids.length n4] 29)).alloc (.cells #[.int .i64 9, .int .i64 0, .slice (some ⟨W1.heap.size, 0, none⟩) 4 4] 29)).alloc (.cells #[.int .i64 S.kind, .int .i64 S.num, .slice a2 S.kids.length n2, .int .i64 B.kind, .int .i64 B.num, .slice a4 B.kids.length n4] 29)).alloc (.cells #[.int .i64 5, .int .i64 0, .slice (some ⟨W1.heap.size + 1 + 1, 0, none⟩) 2 2] 29)).alloc (.cells #[.int .i64 5, .int .i64 0, .slice (some ⟨W1.heap.size + 1 + 1, 0, none⟩) 2 2, .int .i64 9, .int .i64 0, .slice (some ⟨W1.heap.size, 0, none⟩) 4 4] 29)).alloc (.cells #[.int .i64 5, .int .i64 0, .slice (some ⟨W1.heap.size + 1 + 1 + 1 + 1, 0, none⟩) 2 2] 29)).heap[W1.heap.size + 1 + 1]? = some (.cells #[.int .i64 S.kind, .int .i64 S.num, .slice a2 S.kids.length n2, .int .i64 B.kind, .int .i64 B.num, .slice a4 B.kids.length n4] 29)) := tuck (heap_keep (heap_keep (heap_keep (by
   have := heap_new ((W1.alloc (.cells #[.int .i64 P.kind, .int .i64 P.num, .slice a0 P.kids.length n0, .int .i64 Z.kind, .int .i64 Z.num, .slice a1 Z.kids.length n1, .int .i64 S.kind, .int .i64 S.num, .slice a2 S.kids.length n2, .int .i64 B.kind, .int .i64 B.num, .slice a4 B.kids.length n4] 29)).alloc (.cells #[.int .i64 9, .int .i64 0, .slice (some ⟨W1.heap.size, 0, none⟩) 4 4] 29)) (.cells #[.int .i64 S.kind, .int .i64 S.num, .slice a2 S.kids.length n2, .int .i64 B.kind, .int .i64 B.num, .slice a4 B.kids.length n4] 29)
   rwa [show ((W1.alloc (.cells #[.int .i64 P.kind, .int .i64 P.num, .slice a0 P.kids.length n0, .int .i64 Z.kind, .int .i64 Z.num, .slice a1 Z.kids.length n1, .int .i64 S.kind, .int .i64 S.num, .slice a2 S.kids.length n2, .int .i64 B.kind, .int .i64 B.num, .slice a4 B.kids.length n4] 29)).alloc (.cells #[.int .i64 9, .int .i64 0, .slice (some ⟨W1.heap.size, 0, none⟩) 4 4] 29)).heap.size = W1.heap.size + 1 + 1 by simp] at this) _) _) _)
  have Q3 : Hid (((((((W1.alloc (.cells #[.int .i64 P.kind, .int .i64 P.num, .slice a0 P.kids.length n0, .int .i64 Z.kind, .int .i64 Z.num, .slice a1 Z.kids.length n1, .int .i64 S.kind, .int .i64 S.num, .slice a2 S.kids.length n2, .int .i64 B.kind, .int .i64 B.num, .slice a4 B.kids.length n4] 29)).alloc (.cells #[.int .i64 9, .int .i64 0, .slice (some ⟨W1.heap.size, 0, none⟩) 4 4] 29)).alloc (.cells #[.int .i64 S.kind, .int .i64 S.num, .slice a2 S.kids.length n2, .int .i64 B.kind, .int .i64 B.num, .slice a4 B.kids.length n4] 29)).alloc (.cells #[.int .i64 5, .int .i64 0, .slice (some ⟨W1.heap.size + 1 + 1, 0, none⟩) 2 2] 29)).alloc (.cells #[.int .i64 5, .int .i64 0, .slice (some ⟨W1.heap.size + 1 + 1, 0, none⟩) 2 2, .int .i64 9, .int .i64 0, .slice (some ⟨W1.heap.size, 0, none⟩) 4 4] 29)).alloc (.cells #[.int .i64 5, .int .i64 0, .slice (some ⟨W1.heap.size + 1 + 1 + 1 + 1, 0, none⟩) 2 2] 29)).heap[W1.heap.size + 1 + 1 + 1 + 1]? = some (.cells #[.int .i64 5, .int .i64 0, .slice (some ⟨W1.heap.size + 1 + 1, 0, none⟩) 2 2, .int .i64 9, .int .i64 0, .slice (some ⟨W1.heap.size, 0, none⟩) 4 4] 29)) := tuck (heap_keep (by
   have := heap_new ((((W1.alloc (.cells #[.int .i64 P.kind, .int .i64 P.num, .slice a0 P.kids.length n0, .int .i64 Z.kind, .int .i64 Z.num, .slice a1 Z.kids.length n1, .int .i64 S.kind, .int .i64 S.num, .slice a2 S.kids.length n2, .int .i64 B.kind, .int .i64 B.num, .slice a4 B.kids.length n4] 29)).alloc (.cells #[.int .i64 9, .int .i64 0, .slice (some ⟨W1.heap.size, 0, none⟩) 4 4] 29)).alloc (.cells #[.int .i64 S.kind, .int .i64 S.num, .slice a2 S.kids.length n2, .int .i64 B.kind, .int .i64 B.num, .slice a4 B.kids.length n4] 29)).alloc (.cells #[.int .i64 5, .int .i64 0, .slice (some ⟨W1.heap.size + 1 + 1, 0, none⟩) 2 2] 29)) (.cells #[.int .i64 5, .int .i64 0, .slice (some ⟨W1.heap.size + 1 + 1, 0, none⟩) 2 2, .int .i64 9, .int .i64 0, .slice (some ⟨W1.heap.size, 0, none⟩) 4 4] 29)
   rwa [show ((((W1.alloc (.cells #[.int .i64 P.kind, .int .i64 P.num, .slice a0 P.kids.length n0, .int .i64 Z.kind, .int .i64 Z.num, .slice a1 Z.kids.length n1, .int .i64 S.kind, .int .i64 S.num, .slice a2 S.kids.length n2, .int .i64 B.kind, .int .i64 B.num, .slice a4 B.kids.length n4] 29)).alloc (.cells #[.int .i64 9, .int .i64 0, .slice (some ⟨W1.heap.size, 0, none⟩) 4 4] 29)).alloc (.cells #[.int .i64 S.kind, .int .i64 S.num, .slice a2 S.kids.length n2, .int .i64 B.kind, .int .i64 B.num, .slice a4 B.kids.length n4] 29)).alloc (.cells #[.int .i64 5, .int .i64 0, .slice (some ⟨W1.heap.size + 1 + 1, 0, none⟩) 2 2] 29)).heap.size = W1.heap.size + 1 + 1 + 1 + 1 by simp] at this) _)
  have QN : Hid (VarAt (W1.heap.size + 1 + 1 + 1 + 1 + 1) 5 0 (.slice (some ⟨W1.heap.size + 1 + 1 + 1 + 1, 0, none⟩) 2 2) ((((((W1.alloc (.cells #[.int .i64 P.kind, .int .i64 P.num, .slice a0 P.kids.length n0, .int .i64 Z.kind, .int .i64 Z.num, .slice a1 Z.kids.length n1, .int .i64 S.kind, .int .i64 S.num, .slice a2 S.kids.length n2, .int .i64 B.kind, .int .i64 B.num, .slice a4 B.kids.length n4] 29)).alloc (.cells #[.int .i64 9, .int .i64 0, .slice (some ⟨W1.heap.size, 0, none⟩) 4 4] 29)).alloc (.cells #[.int .i64 S.kind, .int .i64 S.num, .slice a2 S.kids.length n2, .int .i64 B.kind, .int .i64 B.num, .slice a4 B.kids.length n4] 29)).alloc (.cells #[.int .i64 5, .int .i64 0, .slice (some ⟨W1.heap.size + 1 + 1, 0, none⟩) 2 2] 29)).alloc (.cells #[.int .i64 5, .int .i64 0, .slice (some ⟨W1.heap.size + 1 + 1, 0, none⟩) 2 2, .int .i64 9, .int .i64 0, .slice (some ⟨W1.heap.size, 0, none⟩) 4 4] 29)).alloc (.cells #[.int .i64 5, .int .i64 0, .slice (some ⟨W1.heap.size + 1 + 1 + 1 + 1, 0, none⟩) 2 2] 29))) := tuck (by
   have := heap_new (((((W1.alloc (.cells #[.int .i64 P.kind, .int .i64 P.num, .slice a0 P.kids.length n0, .int .i64 Z.kind, .int .i64 Z.num, .slice a1 Z.kids.length n1, .int .i64 S.kind, .int .i64 S.num, .slice a2 S.kids.length n2, .int .i64 B.kind, .int .i64 B.num, .slice a4 B.kids.length n4] 29)).alloc (.cells #[.int .i64 9, .int .i64 0, .slice (some ⟨W1.heap.size, 0, none⟩) 4 4] 29)).alloc (.cells #[.int .i64 S.kind, .int .i64 S.num, .slice a2 S.kids.length n2, .int .i64 B.kind, .int .i64 B.num, .slice a4 B.kids.length n4] 29)).alloc (.cells #[.int .i64 5, .int .i64 0, .slice (some ⟨W1.heap.size + 1 + 1, 0, none⟩) 2 2] 29)).alloc (.cells #[.int .i64 5, .int .i64 0, .slice (some ⟨W1.heap.size + 1 + 1, 0, none⟩) 2 2, .int .i64 9, .int .i64 0, .slice (some ⟨W1.heap.size, 0, none⟩) 4 4] 29)) (.cells #[.int .i64 5, .int .i64 0, .slice (some ⟨W1.heap.size + 1 + 1 + 1 + 1, 0, none⟩) 2 2] 29)
   rwa [show (((((W1.alloc (.cells #[.int .i64 P.kind, .int .i64 P.num, .slice a0 P.kids.length n0, .int .i64 Z.kind, .int .i64 Z.num, .slice a1 Z.kids.length n1, .int .i64 S.kind, .int .i64 S.num, .slice a2 S.kids.length n2, .int .i64 B.kind, .int .i64 B.num, .slice a4 B.kids.length n4] 29)).alloc (.cells #[.int .i64 9, .int .i64 0, .slice (some ⟨W1.heap.size, 0, none⟩) 4 4] 29)).alloc (.cells #[.int .i64 S.kind, .int .i64 S.num, .slice a2 S.kids.length n2, .int .i64 B.kind, .int .i64 B.num, .slice a4 B.kids.length n4] 29)).alloc (.cells #[.int .i64 5, .int .i64 0, .slice (some ⟨W1.heap.size + 1 + 1, 0, none⟩) 2 2] 29)).alloc (.cells #[.int .i64 5, .int .i64 0, .slice (some ⟨W1.heap.size + 1 + 1, 0, none⟩) 2 2, .int .i64 9, .int .i64 0, .slice (some ⟨W1.heap.size, 0, none⟩) 4 4] 29)).heap.size = W1.heap.size + 1 + 1 + 1 + 1 + 1 by simp] at this)
  have QZ : Hid (((((((W1.alloc (.cells #[.int .i64 P.kind, .int .i64 P.num, .slice a0 P.kids.length n0, .int .i64 Z.kind, .int .i64 Z.num, .slice a1 Z.kids.length n1, .int .i64 S.kind, .int .i64 S.num, .slice a2 S.kids.length n2, .int .i64 B.kind, .int .i64 B.num, .slice a4 B.kids.length n4] 29)).alloc (.cells #[.int .i64 9, .int .i64 0, .slice (some ⟨W1.heap.size, 0, none⟩) 4 4] 29)).alloc (.cells #[.int .i64 S.kind, .int .i64 S.num, .slice a2 S.kids.length n2, .int .i64 B.kind, .int .i64 B.num, .slice a4 B.kids.length n4] 29)).alloc (.cells #[.int .i64 5, .int .i64 0, .slice (some ⟨W1.heap.size + 1 + 1, 0, none⟩) 2 2] 29)).alloc (.cells #[.int .i64 5, .int .i64 0, .slice (some ⟨W1.heap.size + 1 + 1, 0, none⟩) 2 2, .int .i64 9, .int .i64 0, .slice (some ⟨W1.heap.size, 0, none⟩) 4 4] 29)).alloc (.cells #[.int .i64 5, .int .i64 0, .slice (some ⟨W1.heap.size + 1 + 1 + 1 + 1, 0, none⟩) 2 2] 29)).heap.size = W1.heap.size + 6) := tuck (by simp)
  have QB : Hid (Below W1.heap.size W1 ((((((W1.alloc (.cells #[.int .i64 P.kind, .int .i64 P.num, .slice a0 P.kids.length n0, .int .i64 Z.kind, .int .i64 Z.num, .slice a1 Z.kids.length n1, .int .i64 S.kind, .int .i64 S.num, .slice a2 S.kids.length n2, .int .i64 B.kind, .int .i64 B.num, .slice a4 B.kids.length n4] 29)).alloc (.cells #[.int .i64 9, .int .i64 0, .slice (some ⟨W1.heap.size, 0, none⟩) 4 4] 29)).alloc (.cells #[.int .i64 S.kind, .int .i64 S.num, .slice a2 S.kids.length n2, .int .i64 B.kind, .int .i64 B.num, .slice a4 B.kids.length n4] 29)).alloc (.cells #[.int .i64 5, .int .i64 0, .slice (some ⟨W1.heap.size + 1 + 1, 0, none⟩) 2 2] 29)).alloc (.cells #[.int .i64 5, .int .i64 0, .slice (some ⟨W1.heap.size + 1 + 1, 0, none⟩) 2 2, .int .i64 9, .int .i64 0, .slice (some ⟨W1.heap.size, 0, none⟩) 4 4] 29)).alloc (.cells #[.int .i64 5, .int .i64 0, .slice (some ⟨W1.heap.size + 1 + 1 + 1 + 1, 0, none⟩) 2 2] 29))) := tuck ((((((below1 _ _).alloc (by simp) _).alloc (by simp; omega) _).alloc (by simp; omega) _).alloc (by simp; omega) _).alloc (by simp; omega) _)
  generalize ((((((W1.alloc (.cells #[.int .i64 P.kind, .int .i64 P.num, .slice a0 P.kids.length n0, .int .i64 Z.kind, .int .i64 Z.num, .slice a1 Z.kids.length n1, .int .i64 S.kind, .int .i64 S.num, .slice a2 S.kids.length n2, .int .i64 B.kind, .int .i64 B.num, .slice a4 B.kids.length n4] 29)).alloc (.cells #[.int .i64 9, .int .i64 0, .slice (some ⟨W1.heap.size, 0, none⟩) 4 4] 29)).alloc (.cells #[.int .i64 S.kind, .int .i64 S.num, .slice a2 S.kids.length n2, .int .i64 B.kind, .int .i64 B.num, .slice a4 B.kids.length n4] 29)).alloc (.cells #[.int .i64 5, .int .i64 0, .slice (some ⟨W1.heap.size + 1 + 1, 0, none⟩) 2 2] 29)).alloc (.cells #[.int .i64 5, .int .i64 0, .slice (some ⟨W1.heap.size + 1 + 1, 0, none⟩) 2 2, .int .i64 9, .int .i64 0, .slice (some ⟨W1.heap.size, 0, none⟩) 4 4] 29)).alloc (.cells #[.int .i64 5, .int .i64 0, .slice (some ⟨W1.heap.size + 1 + 1 + 1 + 1, 0, none⟩) 2 2] 29)) = W6 at *
  clear e40 e41 e42 e50 e51 e52 e60 e61 e62 e70 e71 e72
  have hgn : W1.heap.size + 1 + 1 + 1 + 1 + 1 ≠ w.heap.size + 1 := by omega
  have hr1 : W1.heap.size ≠ w.heap.size + 1 := by omega
  have hr2 : W1.heap.size + 1 + 1 ≠ w.heap.size + 1 := by omega
  have hr3 : W1.heap.size + 1 + 1 + 1 + 1 ≠ w.heap.size + 1 := by omega
  have HR := tuck (⟨hr1, hr2, hr3⟩ : W1.heap.size ≠ w.heap.size + 1 ∧ W1.heap.size + 1 + 1 ≠ w.heap.size + 1 ∧ W1.heap.size + 1 + 1 + 1 + 1 ≠ w.heap.size + 1)
  have HB6 := tuck (bAfter HBW.out (bAfter QB.out (Below.refl _ _).drew))
  have HV6 := tuck ((HV1.out.below QB.out).below (Below.refl _ _).drew)
  have HVAL : Hid (Calls Tryz.prog 15 #[.agg #[.int .i64 5, .int .i64 0, .slice (some ⟨W1.heap.size + 1 + 1 + 1 + 1, 0, none⟩) 2 2]] W6.drew (BoolPost W6.drew (tr (Tm.Valid (.mk 5 0 [.mk 5 0 [S, B], .mk 9 0 [P, Z, S, B]]))))) := tuck (validI_any (.mk 5 0 [.mk 5 0 [S, B], .mk 9 0 [P, Z, S, B]]) W6.drew _ ⟨_, rfl, (HSL.out W6.drew HB6.out Q1.out Q2.out Q3.out).sl⟩)
  have hz : W1.heap.size + 1 + 1 + 1 + 1 + 1 < W6.heap.size := by have := QZ.out; omega
  have hq0 : Hid ((fun w' : World => W1.heap.size + 1 + 1 + 1 + 1 + 1 < w'.heap.size ∧ w'.cell? ⟨W1.heap.size + 1 + 1 + 1 + 1 + 1, 0, none⟩ = some (.int .i64 5) ∧ w'.cell? ⟨W1.heap.size + 1 + 1 + 1 + 1 + 1, 1, none⟩ = some (.int .i64 0) ∧ w'.cell? ⟨W1.heap.size + 1 + 1 + 1 + 1 + 1, 2, none⟩ = some (.slice (some ⟨W1.heap.size + 1 + 1 + 1 + 1, 0, none⟩) 2 2)) W6.drew) := tuck ⟨hz, QN.out.facts.2.1, QN.out.facts.2.2.1, QN.out.facts.2.2.2.1⟩
  clear hr1 hr2 hr3 hlt1
  generalize hgN : W1.heap.size + 1 + 1 + 1 + 1 + 1 = gn at *
  have HGN := tuck hgN
  clear hgN
  go_region_held3 (fun w' => gn < w'.heap.size ∧ w'.cell? ⟨gn, 0, none⟩ = some (.int .i64 5) ∧ w'.cell? ⟨gn, 1, none⟩ = some (.int .i64 0) ∧ w'.cell? ⟨gn, 2, none⟩ = some (.slice (some ⟨W1.heap.size + 1 + 1 + 1 + 1, 0, none⟩) 2 2)) (first | exact hq0.out | exact HK2.out | exact HK3.out) ((go_at_call 15; refine HVAL.out.mono ?_; rintro e w2 ⟨rfl, hb2⟩; have HB2 := tuck hb2; have HQN2 := tuck ((QN.out.below (Below.refl _ _).drew).below hb2); have HQN3 := tuck (HQN2.out.far3 hgn 0 1 2 (.int .i64 5) (.int .i64 0) (.slice (some ⟨W1.heap.size + 1 + 1 + 1 + 1, 0, none⟩) 2 2)); have HK2 : Hid ((fun w' : World => gn < w'.heap.size ∧ w'.cell? ⟨gn, 0, none⟩ = some (.int .i64 5) ∧ w'.cell? ⟨gn, 1, none⟩ = some (.int .i64 0) ∧ w'.cell? ⟨gn, 2, none⟩ = some (.slice (some ⟨W1.heap.size + 1 + 1 + 1 + 1, 0, none⟩) 2 2)) w2) := tuck ⟨HQN2.out.facts.1, HQN2.out.facts.2.1, HQN2.out.facts.2.2.1, HQN2.out.facts.2.2.2.1⟩; have HK3 := tuck (show (fun w' : World => gn < w'.heap.size ∧ w'.cell? ⟨gn, 0, none⟩ = some (.int .i64 5) ∧ w'.cell? ⟨gn, 1, none⟩ = some (.int .i64 0) ∧ w'.cell? ⟨gn, 2, none⟩ = some (.slice (some ⟨W1.heap.size + 1 + 1 + 1 + 1, 0, none⟩) 2 2)) _ from ⟨HQN3.out.facts.1, HQN3.out.facts.2.1, HQN3.out.facts.2.2.1, HQN3.out.facts.2.2.2.1⟩); obtain ⟨zr, r0, r1, r2, rf⟩ := (HV6.out.below hb2).facts; clear hb2))
  all_goals (try go_wp2_with fail)
  all_goals
   refine bodyPost_ret (v := .tuple #[.agg #[.int .i64 5, .int .i64 0, .slice (some ⟨W1.heap.size + 1 + 1 + 1 + 1, 0, none⟩) 2 2], .bool (tr (Tm.Valid (.mk 5 0 [.mk 5 0 [S, B], .mk 9 0 [P, Z, S, B]])))]) (by simp [results, Tryz.results124, go_sem, *]) rfl (HHP.out _ _ rfl ?_ ?_ ?_ ?_)
   ·exact bSet3 (bAfter HB6.out HB2.out) (Nat.le_succ _) _ _ _ _ _ _
   ·exact heap_set3 _ _ _ _ _ _ _ _ HR.out.1 ((HB2.out.block _ (by have := QZ.out; show _ < W6.heap.size; omega)).trans Q1.out)
   ·exact heap_set3 _ _ _ _ _ _ _ _ HR.out.2.1 ((HB2.out.block _ (by have := QZ.out; show _ < W6.heap.size; omega)).trans Q2.out)
   ·exact heap_set3 _ _ _ _ _ _ _ _ HR.out.2.2 ((HB2.out.block _ (by have := QZ.out; show _ < W6.heap.size; omega)).trans Q3.out)
end Go.Proofs.YteeafpnjpcgfaaaGreat
