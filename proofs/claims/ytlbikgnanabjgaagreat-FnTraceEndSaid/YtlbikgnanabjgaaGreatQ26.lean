/-
  ContrB.
-/
import Derived.Test.YtlbikgnanabjgaaGreatQ16
import Derived.Test.YtlbikgnanabjgaaGreatQ25
namespace Go.Proofs.YtlbikgnanabjgaaGreat
open Go.RowKit
theorem heap_keep {w : World} {R : Nat} {x : Obj} (h : w.heap[R]? = some x) (o : Obj) : (w.alloc o).heap[R]? = some x :=
 (Below.heap_alloc w o R (by
  rcases Nat.lt_or_ge R w.heap.size with hlt | hge
  ·exact hlt
  ·rw [Array.getElem?_eq_none hge] at h; cases h)).trans h
theorem SlX.of_block {w : World} {X : Nat → Prop} {R cap : Nat} {T : TypeId} {cs : Array Value} {rs : List (Tm × Value)} (hb : w.heap[R]? = some (.cells cs T (0, 0))) (hc : cs.toList = cellsL rs) (hX : ¬ X R) (hl : rs.length ≤ maxLen) (hx : ∀ x ∈ rs, SlX w X x.1.kids x.2) :
  SlX w X (rs.map (·.1)) (.slice (some ⟨R, 0, none⟩) rs.length cap) := by
 obtain ⟨b1, b2, -⟩ := block_of_cells hb
 have hr : RowAt (mask w X) 0 (rs.map (·.1)) R 0 := by
  refine RowAt.of_list (fun j u hu => mask_cell.2 ⟨hX, ?_⟩) hx
  rw [Nat.zero_add, b2, ← Array.getElem?_toList, hc]
  exact hu
 refine ⟨_, cap, R, 0, ?_, ?_, fun _ => ⟨rfl, Nat.zero_le _⟩, hr⟩
 ·rw [List.length_map]
 ·rw [List.length_map]; exact hl
theorem heap_set3 (w : World) (g i j k : Nat) (x y z : Value) {R : Nat} {ob : Option Obj} (h : R ≠ g) (hr : w.heap[R]? = ob) : (((w.setCell ⟨g, i, none⟩ x).setCell ⟨g, j, none⟩ y).setCell ⟨g, k, none⟩ z).heap[R]? = ob :=
 (Below.heap_setCell _ ⟨g, k, none⟩ z R h).trans ((Below.heap_setCell _ ⟨g, j, none⟩ y R h).trans ((Below.heap_setCell _ ⟨g, i, none⟩ x R h).trans hr))
set_option maxRecDepth 100000 in
set_option maxHeartbeats 8000000 in
theorem unroll_any (t : Tm) (hr : t.rootOk) (hk : ∀ i (hi : i < t.kids.length), t.kids[i].Valid) (h3 : t.redex = 3) (w : World) (X : Nat → Prop) (hX : ∀ i, X i → i < w.heap.size) (s : Value) (hs : SlX w X t.kids s) :
  Calls Tryz.prog 78 #[.agg #[.int .i64 t.kind, .int .i64 t.num, s]] w (ContrPost X w (t.contr.Valid) t.contr) := by
 obtain ⟨e9, hl, hm⟩ : t.kind = 9 ∧ t.kids.length = 4 ∧ (kidT t 3).kind = 8 := by
  rcases redex_shape hr (by omega) with ⟨e, -⟩ | ⟨e, -⟩ | ⟨-, a, b, c⟩ | ⟨e, -⟩ | ⟨e, -⟩ | ⟨e, -⟩
  ·omega
  ·omega
  ·exact ⟨a, b, c⟩
  all_goals omega
 have hl2 : (kidT t 3).kids.length = 1 := by
  have h0 : (kidT t 3).Valid := by rw [kidT_eq (by omega)]; exact hk 3 (by omega)
  have := kid_len h0.root hm (a := 1) (by decide)
  omega
 obtain ⟨a, cap, b, o, rfl, hlm, hp, hc⟩ := hs.open
 obtain ⟨rfl, -, hbw⟩ := hp (by intro e; rw [e] at hl; simp at hl)
 obtain ⟨s0, c00, c01, c02, hs0⟩ := hc 0 (by omega)
 obtain ⟨s1, c10, c11, c12, hs1⟩ := hc 1 (by omega)
 obtain ⟨s2, c20, c21, c22, hs2⟩ := hc 2 (by omega)
 obtain ⟨s3, c30, c31, c32, hs3⟩ := hc 3 (by omega)
 have h0 : kidT t 0 = t.kids[0] := kidT_eq (by omega)
 have h1 : kidT t 1 = t.kids[1] := kidT_eq (by omega)
 have h2 : kidT t 2 = t.kids[2] := kidT_eq (by omega)
 have h3' : kidT t 3 = t.kids[3] := kidT_eq (by omega)
 have hC : t.contr = .mk 5 0 [.mk 5 0 [kidT t 2, kidT (kidT t 3) 0], .mk 9 0 [kidT t 0, kidT t 1, kidT t 2, kidT (kidT t 3) 0]] := by unfold Tm.contr; rw [if_neg (by omega), if_neg (by omega), if_pos h3]
 rw [hC, h0, h1, h2, h3']
 rw [h3'] at hl2 hm
 generalize t.kids[0] = P at *
 generalize t.kids[1] = Z at *
 generalize t.kids[2] = S at *
 generalize t.kids[3] = M at *
 obtain ⟨a3, cap3, b3, o3, rfl, -, hp3, hc3⟩ := hs3.open
 obtain ⟨rfl, -, hbw3⟩ := hp3 (by intro e; rw [e] at hl2; simp at hl2)
 obtain ⟨s4, c40, c41, c42, hs4⟩ := hc3 0 (by omega)
 obtain ⟨a0, n0, rfl⟩ := hs0.form
 obtain ⟨a1, n1, rfl⟩ := hs1.form
 obtain ⟨a2, n2, rfl⟩ := hs2.form
 obtain ⟨a4, n4, rfl⟩ := hs4.form
 have hB : kidT M 0 = M.kids[0] := kidT_eq (by omega)
 rw [hB]
 rw [hl2] at c32
 generalize M.kids[0] = B at *
 have hbx := below2 w (.cells #[.int .i64 9, .int .i64 t.num, .slice (some ⟨b, o, none⟩) 4 cap] 25) (.cells #[.int .i64 0, .int .i64 0, .slice none 0 0] 25)
 have v0 := (VarAt.new w 9 t.num (.slice (some ⟨b, o, none⟩) 4 cap)).below (below1 _ (.cells #[.int .i64 0, .int .i64 0, .slice none 0 0] 25))
 have v1 := var_new1 w (.cells #[.int .i64 9, .int .i64 t.num, .slice (some ⟨b, o, none⟩) 4 cap] 25) 0 0 (.slice none 0 0)
 have hbs : ((w.alloc (.cells #[.int .i64 9, .int .i64 t.num, .slice (some ⟨b, o, none⟩) 4 cap] 25)).alloc (.cells #[.int .i64 0, .int .i64 0, .slice none 0 0] 25)).heap.size = w.heap.size + 1 + 1 := by simp
 have d00 := (hbx.cell (p := ⟨b, o, none⟩) hbw).trans (by simpa using c00)
 have d01 := (hbx.cell (p := ⟨b, o + 1, none⟩) hbw).trans (by simpa using c01)
 have d02 := (hbx.cell (p := ⟨b, o + 2, none⟩) hbw).trans (by simpa using c02)
 have d10 := (hbx.cell (p := ⟨b, o + 3, none⟩) hbw).trans (by simpa using c10)
 have d11 := (hbx.cell (p := ⟨b, o + 4, none⟩) hbw).trans (by simpa using c11)
 have d12 := (hbx.cell (p := ⟨b, o + 5, none⟩) hbw).trans (by simpa using c12)
 have d20 := (hbx.cell (p := ⟨b, o + 6, none⟩) hbw).trans (by simpa using c20)
 have d21 := (hbx.cell (p := ⟨b, o + 7, none⟩) hbw).trans (by simpa using c21)
 have d22 := (hbx.cell (p := ⟨b, o + 8, none⟩) hbw).trans (by simpa using c22)
 have d30 := (hbx.cell (p := ⟨b, o + 9, none⟩) hbw).trans (by simpa using c30)
 have d31 := (hbx.cell (p := ⟨b, o + 10, none⟩) hbw).trans (by simpa using c31)
 have d32 := (hbx.cell (p := ⟨b, o + 11, none⟩) hbw).trans (by simpa using c32)
 have d40 := (hbx.cell (p := ⟨b3, o3, none⟩) hbw3).trans (by simpa using c40)
 have d41 := (hbx.cell (p := ⟨b3, o3 + 1, none⟩) hbw3).trans (by simpa using c41)
 have d42 := (hbx.cell (p := ⟨b3, o3 + 2, none⟩) hbw3).trans (by simpa using c42)
 obtain ⟨z0, -, -, y2, -⟩ := v0.facts
 have HBX := tuck hbx
 have V1 := tuck v1
 clear hbx v0 v1 hc hp hc3 hp3 c00 c01 c02 c10 c11 c12 c20 c21 c22 c30 c31 c32 c40 c41 c42 hr hk h3 hm hlm hs hs3 hC h0 h1 h2 h3' hB
 rw [e9, hl]
 generalize hpost : ContrPost X w _ _ = post
 go_enter Tryz.func78, Tryz.ntmps78
 go_wp2_with fail
 generalize ((w.alloc (.cells #[.int .i64 9, .int .i64 t.num, .slice (some ⟨b, o, none⟩) 4 cap] 25)).alloc (.cells #[.int .i64 0, .int .i64 0, .slice none 0 0] 25)) = W0 at *
 have HBS := tuck hbs
 have m0 : b < W0.heap.size := by omega
 have k0 : b3 < W0.heap.size := by omega
 clear hbs
 have HCELLS : Hid (∀ w', Below W0.heap.size W0 w' → w'.cell? ⟨b, o, none⟩ = some (.int .i64 P.kind) ∧ w'.cell? ⟨b, o + 1, none⟩ = some (.int .i64 P.num) ∧ w'.cell? ⟨b, o + 2, none⟩ = some (.slice a0 P.kids.length n0) ∧ w'.cell? ⟨b, o + 3, none⟩ = some (.int .i64 Z.kind) ∧ w'.cell? ⟨b, o + 4, none⟩ = some (.int .i64 Z.num) ∧ w'.cell? ⟨b, o + 5, none⟩ = some (.slice a1 Z.kids.length n1) ∧
   w'.cell? ⟨b, o + 6, none⟩ = some (.int .i64 S.kind) ∧ w'.cell? ⟨b, o + 7, none⟩ = some (.int .i64 S.num) ∧ w'.cell? ⟨b, o + 8, none⟩ = some (.slice a2 S.kids.length n2) ∧ w'.cell? ⟨b, o + 9, none⟩ = some (.int .i64 M.kind) ∧ w'.cell? ⟨b, o + 10, none⟩ = some (.int .i64 M.num) ∧ w'.cell? ⟨b, o + 11, none⟩ = some (.slice (some ⟨b3, o3, none⟩) 1 cap3) ∧
   w'.cell? ⟨b3, o3, none⟩ = some (.int .i64 B.kind) ∧ w'.cell? ⟨b3, o3 + 1, none⟩ = some (.int .i64 B.num) ∧ w'.cell? ⟨b3, o3 + 2, none⟩ = some (.slice a4 B.kids.length n4) ∧ w'.cell? ⟨w.heap.size, 2, none⟩ = some (.slice (some ⟨b, o, none⟩) 4 cap)) := tuck fun w' h =>
  ⟨(h.cell (p := ⟨b, o, none⟩) m0).trans d00, (h.cell (p := ⟨b, o + 1, none⟩) m0).trans d01, (h.cell (p := ⟨b, o + 2, none⟩) m0).trans d02, (h.cell (p := ⟨b, o + 3, none⟩) m0).trans d10, (h.cell (p := ⟨b, o + 4, none⟩) m0).trans d11, (h.cell (p := ⟨b, o + 5, none⟩) m0).trans d12,
   (h.cell (p := ⟨b, o + 6, none⟩) m0).trans d20, (h.cell (p := ⟨b, o + 7, none⟩) m0).trans d21, (h.cell (p := ⟨b, o + 8, none⟩) m0).trans d22, (h.cell (p := ⟨b, o + 9, none⟩) m0).trans d30, (h.cell (p := ⟨b, o + 10, none⟩) m0).trans d31, (h.cell (p := ⟨b, o + 11, none⟩) m0).trans d32,
   (h.cell (p := ⟨b3, o3, none⟩) k0).trans d40, (h.cell (p := ⟨b3, o3 + 1, none⟩) k0).trans d41, (h.cell (p := ⟨b3, o3 + 2, none⟩) k0).trans d42, (h.cell (p := ⟨w.heap.size, 2, none⟩) z0).trans y2⟩
 go_upto_region 1 with fail
 go_cut [4, 5, 6, 7] (fun p4 p5 p6 p7 wx => ∃ (g4 g5 g6 g7 : Nat), p4 = .pointer (some ⟨g4, 0, none⟩) ∧ p5 = .pointer (some ⟨g5, 0, none⟩) ∧ p6 = .pointer (some ⟨g6, 0, none⟩) ∧ p7 = .pointer (some ⟨g7, 0, none⟩) ∧ Below W0.heap.size W0 wx ∧ VarAt g4 P.kind P.num (.slice a0 P.kids.length n0) wx ∧ VarAt g5 Z.kind Z.num (.slice a1 Z.kids.length n1) wx ∧ VarAt g6 S.kind S.num (.slice a2 S.kids.length n2) wx ∧ VarAt g7 B.kind B.num (.slice a4 B.kids.length n4) wx)
 case first =>
  have HT12 : ∀ w' : World, (fun w' : World => Below W0.heap.size W0 w') w' → (fun w' : World => Below W0.heap.size W0 w') w' := fun w' h => h
  refine AnyTwo.begin (fun w' : World => Below W0.heap.size W0 w') (fun w' : World => Below W0.heap.size W0 w') 26 (by kernel_rfl) ?_
  have hS1 : (fun w' : World => Below W0.heap.size W0 w') W0.drew := (Below.refl _ _).drew
  refine AnyTwo.tk HT12 (i := 0) (oi := ⟨some 11, _, _, _, _, _⟩) rfl (ph_one (by kernel_rfl) hS1) ?_ (hy := by (refine Or.inl ⟨by rfl, ?_⟩; intro w hSw; (try dsimp only at hSw); obtain ⟨x0, x1, x2, x3, x4, x5, x6, x7, x8, x9, x10, x11, x12, x13, x14, x15⟩ := HCELLS.out _ hSw; go_simp; try (with_reducible rfl)))
  try simp only [pts]
  refine AnyTwo.tk HT12 (i := 1) (oi := ⟨some 12, _, _, _, _, _⟩) rfl (ph_one (by kernel_rfl) hS1) ?_ (hy := by (refine Or.inl ⟨by rfl, ?_⟩; intro w hSw; (try dsimp only at hSw); obtain ⟨x0, x1, x2, x3, x4, x5, x6, x7, x8, x9, x10, x11, x12, x13, x14, x15⟩ := HCELLS.out _ hSw; go_simp; try (with_reducible rfl)))
  try simp only [pts]
  refine AnyTwo.tk HT12 (i := 2) (oi := ⟨some 13, _, _, _, _, _⟩) rfl (ph_one (by kernel_rfl) hS1) ?_ (hy := by (refine Or.inl ⟨by rfl, ?_⟩; intro w hSw; (try dsimp only at hSw); obtain ⟨x0, x1, x2, x3, x4, x5, x6, x7, x8, x9, x10, x11, x12, x13, x14, x15⟩ := HCELLS.out _ hSw; go_simp; try (with_reducible rfl)))
  try simp only [pts]
  refine AnyTwo.tk HT12 (i := 3) (oi := ⟨some 14, _, _, _, _, _⟩) rfl (ph_one (by kernel_rfl) hS1) ?_ (hy := by (refine Or.inl ⟨by rfl, ?_⟩; intro w hSw; (try dsimp only at hSw); obtain ⟨x0, x1, x2, x3, x4, x5, x6, x7, x8, x9, x10, x11, x12, x13, x14, x15⟩ := HCELLS.out _ hSw; go_simp; try (with_reducible rfl)))
  try simp only [pts]
  refine AnyTwo.tk HT12 (i := 4) (oi := ⟨some 15, _, _, _, _, _⟩) rfl (ph_one (by kernel_rfl) hS1) ?_ (hy := by (refine Or.inl ⟨by rfl, ?_⟩; intro w hSw; (try dsimp only at hSw); obtain ⟨x0, x1, x2, x3, x4, x5, x6, x7, x8, x9, x10, x11, x12, x13, x14, x15⟩ := HCELLS.out _ hSw; go_simp; try (with_reducible rfl)))
  try simp only [pts]
  refine AnyTwo.tk HT12 (i := 5) (oi := ⟨some 16, _, _, _, _, _⟩) rfl (ph_one (by kernel_rfl) hS1) ?_ (hy := by (refine Or.inl ⟨by rfl, ?_⟩; intro w hSw; (try dsimp only at hSw); obtain ⟨x0, x1, x2, x3, x4, x5, x6, x7, x8, x9, x10, x11, x12, x13, x14, x15⟩ := HCELLS.out _ hSw; go_simp; try (with_reducible rfl)))
  try simp only [pts]
  refine AnyTwo.tk HT12 (i := 6) (oi := ⟨some 17, _, _, _, _, _⟩) rfl (ph_one (by kernel_rfl) hS1) ?_ (hy := by (refine Or.inl ⟨by rfl, ?_⟩; intro w hSw; (try dsimp only at hSw); obtain ⟨x0, x1, x2, x3, x4, x5, x6, x7, x8, x9, x10, x11, x12, x13, x14, x15⟩ := HCELLS.out _ hSw; go_simp; try (with_reducible rfl)))
  try simp only [pts]
  refine AnyTwo.tk HT12 (i := 7) (oi := ⟨some 18, _, _, _, _, _⟩) rfl (ph_one (by kernel_rfl) hS1) ?_ (hy := by (refine Or.inl ⟨by rfl, ?_⟩; intro w hSw; (try dsimp only at hSw); obtain ⟨x0, x1, x2, x3, x4, x5, x6, x7, x8, x9, x10, x11, x12, x13, x14, x15⟩ := HCELLS.out _ hSw; go_simp; try (with_reducible rfl)))
  try simp only [pts]
  refine AnyTwo.tk HT12 (i := 8) (oi := ⟨some 19, _, _, _, _, _⟩) rfl (ph_one (by kernel_rfl) hS1) ?_ (hy := by (refine Or.inl ⟨by rfl, ?_⟩; intro w hSw; (try dsimp only at hSw); obtain ⟨x0, x1, x2, x3, x4, x5, x6, x7, x8, x9, x10, x11, x12, x13, x14, x15⟩ := HCELLS.out _ hSw; go_simp; try (with_reducible rfl)))
  try simp only [pts]
  refine AnyTwo.tk HT12 (i := 9) (oi := ⟨some 20, _, _, _, _, _⟩) rfl (ph_one (by kernel_rfl) hS1) ?_ (hy := by (refine Or.inl ⟨by rfl, ?_⟩; intro w hSw; (try dsimp only at hSw); obtain ⟨x0, x1, x2, x3, x4, x5, x6, x7, x8, x9, x10, x11, x12, x13, x14, x15⟩ := HCELLS.out _ hSw; go_simp; try (with_reducible rfl)))
  try simp only [pts]
  refine AnyTwo.tk HT12 (i := 10) (oi := ⟨some 21, _, _, _, _, _⟩) rfl (ph_one (by kernel_rfl) hS1) ?_ (hy := by (refine Or.inl ⟨by rfl, ?_⟩; intro w hSw; (try dsimp only at hSw); obtain ⟨x0, x1, x2, x3, x4, x5, x6, x7, x8, x9, x10, x11, x12, x13, x14, x15⟩ := HCELLS.out _ hSw; go_simp; try (with_reducible rfl)))
  try simp only [pts]
  refine AnyTwo.tk HT12 (i := 11) (oi := ⟨some 22, _, _, _, _, _⟩) rfl (ph_one (by kernel_rfl) hS1) ?_ (hy := by (refine Or.inl ⟨by rfl, ?_⟩; intro w hSw; (try dsimp only at hSw); obtain ⟨x0, x1, x2, x3, x4, x5, x6, x7, x8, x9, x10, x11, x12, x13, x14, x15⟩ := HCELLS.out _ hSw; go_simp; try (with_reducible rfl)))
  try simp only [pts]
  refine AnyTwo.tk HT12 (i := 12) (oi := ⟨some 23, _, _, _, _, _⟩) rfl (ph_one (by kernel_rfl) hS1) ?_ (hy := by (refine Or.inl ⟨by rfl, ?_⟩; intro w hSw; (try dsimp only at hSw); obtain ⟨x0, x1, x2, x3, x4, x5, x6, x7, x8, x9, x10, x11, x12, x13, x14, x15⟩ := HCELLS.out _ hSw; go_simp; try (with_reducible rfl)))
  try simp only [pts]
  refine AnyTwo.tk HT12 (i := 13) (oi := ⟨some 24, _, _, _, _, _⟩) rfl (ph_one (by kernel_rfl) hS1) ?_ (hy := by (refine Or.inl ⟨by rfl, ?_⟩; intro w hSw; (try dsimp only at hSw); obtain ⟨x0, x1, x2, x3, x4, x5, x6, x7, x8, x9, x10, x11, x12, x13, x14, x15⟩ := HCELLS.out _ hSw; go_simp; try (with_reducible rfl)))
  try simp only [pts]
  refine AnyTwo.tk HT12 (i := 14) (oi := ⟨some 25, _, _, _, _, _⟩) rfl (ph_one (by kernel_rfl) hS1) ?_ (hy := by (refine Or.inl ⟨by rfl, ?_⟩; intro w hSw; (try dsimp only at hSw); obtain ⟨x0, x1, x2, x3, x4, x5, x6, x7, x8, x9, x10, x11, x12, x13, x14, x15⟩ := HCELLS.out _ hSw; go_simp; try (with_reducible rfl)))
  try simp only [pts]
  refine AnyTwo.tk HT12 (i := 15) (oi := ⟨some 26, _, _, _, _, _⟩) rfl (ph_one (by kernel_rfl) hS1) ?_ (hy := by (refine Or.inl ⟨by rfl, ?_⟩; intro w hSw; (try dsimp only at hSw); obtain ⟨x0, x1, x2, x3, x4, x5, x6, x7, x8, x9, x10, x11, x12, x13, x14, x15⟩ := HCELLS.out _ hSw; go_simp; try (with_reducible rfl)))
  try simp only [pts]
  refine AnyTwo.tk HT12 (i := 16) (oi := ⟨some 27, _, _, _, _, _⟩) rfl (ph_one (by kernel_rfl) hS1) ?_ (hy := by (refine Or.inl ⟨by rfl, ?_⟩; intro w hSw; (try dsimp only at hSw); obtain ⟨x0, x1, x2, x3, x4, x5, x6, x7, x8, x9, x10, x11, x12, x13, x14, x15⟩ := HCELLS.out _ hSw; go_simp; try (with_reducible rfl)))
  try simp only [pts]
  refine AnyTwo.tk HT12 (i := 17) (oi := ⟨some 28, _, _, _, _, _⟩) rfl (ph_one (by kernel_rfl) hS1) ?_ (hy := by (refine Or.inl ⟨by rfl, ?_⟩; intro w hSw; (try dsimp only at hSw); obtain ⟨x0, x1, x2, x3, x4, x5, x6, x7, x8, x9, x10, x11, x12, x13, x14, x15⟩ := HCELLS.out _ hSw; go_simp; try (with_reducible rfl)))
  try simp only [pts]
  refine AnyTwo.tk HT12 (i := 18) (oi := ⟨some 29, _, _, _, _, _⟩) rfl (ph_one (by kernel_rfl) hS1) ?_ (hy := by (refine Or.inl ⟨by rfl, ?_⟩; intro w hSw; (try dsimp only at hSw); obtain ⟨x0, x1, x2, x3, x4, x5, x6, x7, x8, x9, x10, x11, x12, x13, x14, x15⟩ := HCELLS.out _ hSw; go_simp; try (with_reducible rfl)))
  try simp only [pts]
  clear HT12 d00 d01 d02 d10 d11 d12 d20 d21 d22 d30 d31 d32 d40 d41 d42 y2
  generalize W0.drew = w0 at hS1 ⊢
  all_goals
   refine AnyTwo.fork4 (i0 := 19) (o0 := ⟨some 4, _, _, _, _, _⟩) (i1 := 20) (o1 := ⟨some 5, _, _, _, _, _⟩) (i2 := 21) (o2 := ⟨some 6, _, _, _, _, _⟩) (i3 := 22) (o3 := ⟨some 7, _, _, _, _, _⟩) (by decide +kernel) rfl rfl rfl rfl (fun K hK => ?_) (fun K hK => ?_) (fun K hK => ?_) (fun K hK => ?_)
  all_goals
   go_simp
   have hS1' := bAfter hS1 (below1 w0 (.cells #[.int .i64 0, .int .i64 0, .slice none 0 0] 25))
   refine hK.out _ _ (ph_one (by kernel_rfl) hS1') ?_
   clear hK K
   have U1 := tuck (VarAt.new w0 0 0 (.slice none 0 0))
   have HG1 : Hid (W0.heap.size ≤ w0.heap.size) := tuck hS1.size
   have HL1 : Hid (w0.heap.size < (w0.alloc (.cells #[.int .i64 0, .int .i64 0, .slice none 0 0] 25)).heap.size) := tuck U1.out.facts.1
   try simp only [pts]
   generalize (w0.alloc (.cells #[.int .i64 0, .int .i64 0, .slice none 0 0] 25)) = w1 at *
   generalize w0.heap.size = g1 at *
   replace hS1 := hS1'
   clear hS1'
  all_goals
   first
   | refine AnyTwo.fork3 (i0 := 19) (o0 := ⟨some 4, _, _, _, _, _⟩) (i1 := 20) (o1 := ⟨some 5, _, _, _, _, _⟩) (i2 := 21) (o2 := ⟨some 6, _, _, _, _, _⟩) (by decide +kernel) rfl rfl rfl (fun K hK => ?_) (fun K hK => ?_) (fun K hK => ?_)
   | refine AnyTwo.fork3 (i0 := 19) (o0 := ⟨some 4, _, _, _, _, _⟩) (i1 := 20) (o1 := ⟨some 5, _, _, _, _, _⟩) (i2 := 22) (o2 := ⟨some 7, _, _, _, _, _⟩) (by decide +kernel) rfl rfl rfl (fun K hK => ?_) (fun K hK => ?_) (fun K hK => ?_)
   | refine AnyTwo.fork3 (i0 := 19) (o0 := ⟨some 4, _, _, _, _, _⟩) (i1 := 21) (o1 := ⟨some 6, _, _, _, _, _⟩) (i2 := 22) (o2 := ⟨some 7, _, _, _, _, _⟩) (by decide +kernel) rfl rfl rfl (fun K hK => ?_) (fun K hK => ?_) (fun K hK => ?_)
   | refine AnyTwo.fork3 (i0 := 20) (o0 := ⟨some 5, _, _, _, _, _⟩) (i1 := 21) (o1 := ⟨some 6, _, _, _, _, _⟩) (i2 := 22) (o2 := ⟨some 7, _, _, _, _, _⟩) (by decide +kernel) rfl rfl rfl (fun K hK => ?_) (fun K hK => ?_) (fun K hK => ?_)
  all_goals
   go_simp
   have hS1' := bAfter hS1 (below1 w1 (.cells #[.int .i64 0, .int .i64 0, .slice none 0 0] 25))
   refine hK.out _ _ (ph_one (by kernel_rfl) hS1') ?_
   clear hK K
   have U2 := tuck (VarAt.new w1 0 0 (.slice none 0 0))
   have HG2 : Hid (W0.heap.size ≤ w1.heap.size) := tuck hS1.size
   replace U1 := tuck (U1.out.below (below1 w1 (.cells #[.int .i64 0, .int .i64 0, .slice none 0 0] 25)))
   have q12 : g1 ≠ w1.heap.size := Nat.ne_of_lt HL1.out
   have q21 := Ne.symm q12
   replace HL1 := tuck (Nat.lt_of_lt_of_le HL1.out (below1 w1 (.cells #[.int .i64 0, .int .i64 0, .slice none 0 0] 25)).size)
   have HL2 : Hid (w1.heap.size < (w1.alloc (.cells #[.int .i64 0, .int .i64 0, .slice none 0 0] 25)).heap.size) := tuck U2.out.facts.1
   try simp only [pts]
   generalize (w1.alloc (.cells #[.int .i64 0, .int .i64 0, .slice none 0 0] 25)) = w2 at *
   generalize w1.heap.size = g2 at *
   replace hS1 := hS1'
   clear hS1'
  all_goals
   first
   | refine AnyTwo.fork (i := 19) (j := 20) (o := ⟨some 4, _, _, _, _, _⟩) (o' := ⟨some 5, _, _, _, _, _⟩) (by decide +kernel) rfl rfl (fun K hK => ?_) (fun K hK => ?_)
   | refine AnyTwo.fork (i := 19) (j := 21) (o := ⟨some 4, _, _, _, _, _⟩) (o' := ⟨some 6, _, _, _, _, _⟩) (by decide +kernel) rfl rfl (fun K hK => ?_) (fun K hK => ?_)
   | refine AnyTwo.fork (i := 19) (j := 22) (o := ⟨some 4, _, _, _, _, _⟩) (o' := ⟨some 7, _, _, _, _, _⟩) (by decide +kernel) rfl rfl (fun K hK => ?_) (fun K hK => ?_)
   | refine AnyTwo.fork (i := 20) (j := 21) (o := ⟨some 5, _, _, _, _, _⟩) (o' := ⟨some 6, _, _, _, _, _⟩) (by decide +kernel) rfl rfl (fun K hK => ?_) (fun K hK => ?_)
   | refine AnyTwo.fork (i := 20) (j := 22) (o := ⟨some 5, _, _, _, _, _⟩) (o' := ⟨some 7, _, _, _, _, _⟩) (by decide +kernel) rfl rfl (fun K hK => ?_) (fun K hK => ?_)
   | refine AnyTwo.fork (i := 21) (j := 22) (o := ⟨some 6, _, _, _, _, _⟩) (o' := ⟨some 7, _, _, _, _, _⟩) (by decide +kernel) rfl rfl (fun K hK => ?_) (fun K hK => ?_)
  all_goals
   go_simp
   have hS1' := bAfter hS1 (below1 w2 (.cells #[.int .i64 0, .int .i64 0, .slice none 0 0] 25))
   refine hK.out _ _ (ph_one (by kernel_rfl) hS1') ?_
   clear hK K
   have U3 := tuck (VarAt.new w2 0 0 (.slice none 0 0))
   have HG3 : Hid (W0.heap.size ≤ w2.heap.size) := tuck hS1.size
   replace U1 := tuck (U1.out.below (below1 w2 (.cells #[.int .i64 0, .int .i64 0, .slice none 0 0] 25)))
   have q13 : g1 ≠ w2.heap.size := Nat.ne_of_lt HL1.out
   have q31 := Ne.symm q13
   replace HL1 := tuck (Nat.lt_of_lt_of_le HL1.out (below1 w2 (.cells #[.int .i64 0, .int .i64 0, .slice none 0 0] 25)).size)
   replace U2 := tuck (U2.out.below (below1 w2 (.cells #[.int .i64 0, .int .i64 0, .slice none 0 0] 25)))
   have q23 : g2 ≠ w2.heap.size := Nat.ne_of_lt HL2.out
   have q32 := Ne.symm q23
   replace HL2 := tuck (Nat.lt_of_lt_of_le HL2.out (below1 w2 (.cells #[.int .i64 0, .int .i64 0, .slice none 0 0] 25)).size)
   have HL3 : Hid (w2.heap.size < (w2.alloc (.cells #[.int .i64 0, .int .i64 0, .slice none 0 0] 25)).heap.size) := tuck U3.out.facts.1
   try simp only [pts]
   generalize (w2.alloc (.cells #[.int .i64 0, .int .i64 0, .slice none 0 0] 25)) = w3 at *
   generalize w2.heap.size = g3 at *
   replace hS1 := hS1'
   clear hS1'
  all_goals
   first
   | refine AnyTwo.step (i := 19) (o := ⟨some 4, _, _, _, _, _⟩) (by decide +kernel) rfl (fun K hK => ?_)
   | refine AnyTwo.step (i := 20) (o := ⟨some 5, _, _, _, _, _⟩) (by decide +kernel) rfl (fun K hK => ?_)
   | refine AnyTwo.step (i := 21) (o := ⟨some 6, _, _, _, _, _⟩) (by decide +kernel) rfl (fun K hK => ?_)
   | refine AnyTwo.step (i := 22) (o := ⟨some 7, _, _, _, _, _⟩) (by decide +kernel) rfl (fun K hK => ?_)
  all_goals
   go_simp
   have hS1' := bAfter hS1 (below1 w3 (.cells #[.int .i64 0, .int .i64 0, .slice none 0 0] 25))
   refine hK.out _ _ (ph_one (by kernel_rfl) hS1') ?_
   clear hK K
   have U4 := tuck (VarAt.new w3 0 0 (.slice none 0 0))
   have HG4 : Hid (W0.heap.size ≤ w3.heap.size) := tuck hS1.size
   replace U1 := tuck (U1.out.below (below1 w3 (.cells #[.int .i64 0, .int .i64 0, .slice none 0 0] 25)))
   have q14 : g1 ≠ w3.heap.size := Nat.ne_of_lt HL1.out
   have q41 := Ne.symm q14
   replace HL1 := tuck (Nat.lt_of_lt_of_le HL1.out (below1 w3 (.cells #[.int .i64 0, .int .i64 0, .slice none 0 0] 25)).size)
   replace U2 := tuck (U2.out.below (below1 w3 (.cells #[.int .i64 0, .int .i64 0, .slice none 0 0] 25)))
   have q24 : g2 ≠ w3.heap.size := Nat.ne_of_lt HL2.out
   have q42 := Ne.symm q24
   replace HL2 := tuck (Nat.lt_of_lt_of_le HL2.out (below1 w3 (.cells #[.int .i64 0, .int .i64 0, .slice none 0 0] 25)).size)
   replace U3 := tuck (U3.out.below (below1 w3 (.cells #[.int .i64 0, .int .i64 0, .slice none 0 0] 25)))
   have q34 : g3 ≠ w3.heap.size := Nat.ne_of_lt HL3.out
   have q43 := Ne.symm q34
   replace HL3 := tuck (Nat.lt_of_lt_of_le HL3.out (below1 w3 (.cells #[.int .i64 0, .int .i64 0, .slice none 0 0] 25)).size)
   have HL4 : Hid (w3.heap.size < (w3.alloc (.cells #[.int .i64 0, .int .i64 0, .slice none 0 0] 25)).heap.size) := tuck U4.out.facts.1
   try simp only [pts]
   generalize (w3.alloc (.cells #[.int .i64 0, .int .i64 0, .slice none 0 0] 25)) = w4 at *
   generalize w3.heap.size = g4 at *
   replace hS1 := hS1'
   clear hS1'
  all_goals
   obtain ⟨z1, f10, f11, f12, ff1⟩ := U1.out.facts
   obtain ⟨z2, f20, f21, f22, ff2⟩ := U2.out.facts
   obtain ⟨z3, f30, f31, f32, ff3⟩ := U3.out.facts
   obtain ⟨z4, f40, f41, f42, ff4⟩ := U4.out.facts
   refine AnyTwo.step (i := 23) (o := ⟨none, _, _, _, _, _⟩) (by kernel_rfl) rfl (fun K hK => ?_)
   go_simp
   clear z1 f10 f11 f12 ff1 z2 f20 f21 f22 ff2 z3 f30 f31 f32 ff3 z4 f40 f41 f42 ff4
   first
   | (have hS1' := bSet3 hS1 HG1.out 0 1 2 (.int .i64 P.kind) (.int .i64 P.num) (.slice a0 P.kids.length n0); refine hK.out _ _ (ph_one (by kernel_rfl) hS1') ?_; clear hK K; replace U1 := tuck (show VarAt g1 P.kind P.num (.slice a0 P.kids.length n0) (((w4.setCell ⟨g1, 0, none⟩ (.int .i64 P.kind)).setCell ⟨g1, 1, none⟩ (.int .i64 P.num)).setCell ⟨g1, 2, none⟩ (.slice a0 P.kids.length n0)) from U1.out.set); replace U2 := tuck (U2.out.far3 q21 0 1 2 (.int .i64 P.kind) (.int .i64 P.num) (.slice a0 P.kids.length n0)); replace U3 := tuck (U3.out.far3 q31 0 1 2 (.int .i64 P.kind) (.int .i64 P.num) (.slice a0 P.kids.length n0)); replace U4 := tuck (U4.out.far3 q41 0 1 2 (.int .i64 P.kind) (.int .i64 P.num) (.slice a0 P.kids.length n0)); generalize (((w4.setCell ⟨g1, 0, none⟩ (.int .i64 P.kind)).setCell ⟨g1, 1, none⟩ (.int .i64 P.num)).setCell ⟨g1, 2, none⟩ (.slice a0 P.kids.length n0)) = v4 at *; replace hS1 := hS1'; clear hS1')
   | (have hS1' := bSet3 hS1 HG2.out 0 1 2 (.int .i64 P.kind) (.int .i64 P.num) (.slice a0 P.kids.length n0); refine hK.out _ _ (ph_one (by kernel_rfl) hS1') ?_; clear hK K; replace U2 := tuck (show VarAt g2 P.kind P.num (.slice a0 P.kids.length n0) (((w4.setCell ⟨g2, 0, none⟩ (.int .i64 P.kind)).setCell ⟨g2, 1, none⟩ (.int .i64 P.num)).setCell ⟨g2, 2, none⟩ (.slice a0 P.kids.length n0)) from U2.out.set); replace U1 := tuck (U1.out.far3 q12 0 1 2 (.int .i64 P.kind) (.int .i64 P.num) (.slice a0 P.kids.length n0)); replace U3 := tuck (U3.out.far3 q32 0 1 2 (.int .i64 P.kind) (.int .i64 P.num) (.slice a0 P.kids.length n0)); replace U4 := tuck (U4.out.far3 q42 0 1 2 (.int .i64 P.kind) (.int .i64 P.num) (.slice a0 P.kids.length n0)); generalize (((w4.setCell ⟨g2, 0, none⟩ (.int .i64 P.kind)).setCell ⟨g2, 1, none⟩ (.int .i64 P.num)).setCell ⟨g2, 2, none⟩ (.slice a0 P.kids.length n0)) = v4 at *; replace hS1 := hS1'; clear hS1')
   | (have hS1' := bSet3 hS1 HG3.out 0 1 2 (.int .i64 P.kind) (.int .i64 P.num) (.slice a0 P.kids.length n0); refine hK.out _ _ (ph_one (by kernel_rfl) hS1') ?_; clear hK K; replace U3 := tuck (show VarAt g3 P.kind P.num (.slice a0 P.kids.length n0) (((w4.setCell ⟨g3, 0, none⟩ (.int .i64 P.kind)).setCell ⟨g3, 1, none⟩ (.int .i64 P.num)).setCell ⟨g3, 2, none⟩ (.slice a0 P.kids.length n0)) from U3.out.set); replace U1 := tuck (U1.out.far3 q13 0 1 2 (.int .i64 P.kind) (.int .i64 P.num) (.slice a0 P.kids.length n0)); replace U2 := tuck (U2.out.far3 q23 0 1 2 (.int .i64 P.kind) (.int .i64 P.num) (.slice a0 P.kids.length n0)); replace U4 := tuck (U4.out.far3 q43 0 1 2 (.int .i64 P.kind) (.int .i64 P.num) (.slice a0 P.kids.length n0)); generalize (((w4.setCell ⟨g3, 0, none⟩ (.int .i64 P.kind)).setCell ⟨g3, 1, none⟩ (.int .i64 P.num)).setCell ⟨g3, 2, none⟩ (.slice a0 P.kids.length n0)) = v4 at *; replace hS1 := hS1'; clear hS1')
   | (have hS1' := bSet3 hS1 HG4.out 0 1 2 (.int .i64 P.kind) (.int .i64 P.num) (.slice a0 P.kids.length n0); refine hK.out _ _ (ph_one (by kernel_rfl) hS1') ?_; clear hK K; replace U4 := tuck (show VarAt g4 P.kind P.num (.slice a0 P.kids.length n0) (((w4.setCell ⟨g4, 0, none⟩ (.int .i64 P.kind)).setCell ⟨g4, 1, none⟩ (.int .i64 P.num)).setCell ⟨g4, 2, none⟩ (.slice a0 P.kids.length n0)) from U4.out.set); replace U1 := tuck (U1.out.far3 q14 0 1 2 (.int .i64 P.kind) (.int .i64 P.num) (.slice a0 P.kids.length n0)); replace U2 := tuck (U2.out.far3 q24 0 1 2 (.int .i64 P.kind) (.int .i64 P.num) (.slice a0 P.kids.length n0)); replace U3 := tuck (U3.out.far3 q34 0 1 2 (.int .i64 P.kind) (.int .i64 P.num) (.slice a0 P.kids.length n0)); generalize (((w4.setCell ⟨g4, 0, none⟩ (.int .i64 P.kind)).setCell ⟨g4, 1, none⟩ (.int .i64 P.num)).setCell ⟨g4, 2, none⟩ (.slice a0 P.kids.length n0)) = v4 at *; replace hS1 := hS1'; clear hS1')
  all_goals
   obtain ⟨z1, f10, f11, f12, ff1⟩ := U1.out.facts
   obtain ⟨z2, f20, f21, f22, ff2⟩ := U2.out.facts
   obtain ⟨z3, f30, f31, f32, ff3⟩ := U3.out.facts
   obtain ⟨z4, f40, f41, f42, ff4⟩ := U4.out.facts
   refine AnyTwo.step (i := 24) (o := ⟨none, _, _, _, _, _⟩) (by kernel_rfl) rfl (fun K hK => ?_)
   go_simp
   clear z1 f10 f11 f12 ff1 z2 f20 f21 f22 ff2 z3 f30 f31 f32 ff3 z4 f40 f41 f42 ff4
   first
   | (have hS1' := bSet3 hS1 HG1.out 0 1 2 (.int .i64 Z.kind) (.int .i64 Z.num) (.slice a1 Z.kids.length n1); refine hK.out _ _ (ph_one (by kernel_rfl) hS1') ?_; clear hK K; replace U1 := tuck (show VarAt g1 Z.kind Z.num (.slice a1 Z.kids.length n1) (((v4.setCell ⟨g1, 0, none⟩ (.int .i64 Z.kind)).setCell ⟨g1, 1, none⟩ (.int .i64 Z.num)).setCell ⟨g1, 2, none⟩ (.slice a1 Z.kids.length n1)) from U1.out.set); replace U2 := tuck (U2.out.far3 q21 0 1 2 (.int .i64 Z.kind) (.int .i64 Z.num) (.slice a1 Z.kids.length n1)); replace U3 := tuck (U3.out.far3 q31 0 1 2 (.int .i64 Z.kind) (.int .i64 Z.num) (.slice a1 Z.kids.length n1)); replace U4 := tuck (U4.out.far3 q41 0 1 2 (.int .i64 Z.kind) (.int .i64 Z.num) (.slice a1 Z.kids.length n1)); generalize (((v4.setCell ⟨g1, 0, none⟩ (.int .i64 Z.kind)).setCell ⟨g1, 1, none⟩ (.int .i64 Z.num)).setCell ⟨g1, 2, none⟩ (.slice a1 Z.kids.length n1)) = v5 at *; replace hS1 := hS1'; clear hS1')
   | (have hS1' := bSet3 hS1 HG2.out 0 1 2 (.int .i64 Z.kind) (.int .i64 Z.num) (.slice a1 Z.kids.length n1); refine hK.out _ _ (ph_one (by kernel_rfl) hS1') ?_; clear hK K; replace U2 := tuck (show VarAt g2 Z.kind Z.num (.slice a1 Z.kids.length n1) (((v4.setCell ⟨g2, 0, none⟩ (.int .i64 Z.kind)).setCell ⟨g2, 1, none⟩ (.int .i64 Z.num)).setCell ⟨g2, 2, none⟩ (.slice a1 Z.kids.length n1)) from U2.out.set); replace U1 := tuck (U1.out.far3 q12 0 1 2 (.int .i64 Z.kind) (.int .i64 Z.num) (.slice a1 Z.kids.length n1)); replace U3 := tuck (U3.out.far3 q32 0 1 2 (.int .i64 Z.kind) (.int .i64 Z.num) (.slice a1 Z.kids.length n1)); replace U4 := tuck (U4.out.far3 q42 0 1 2 (.int .i64 Z.kind) (.int .i64 Z.num) (.slice a1 Z.kids.length n1)); generalize (((v4.setCell ⟨g2, 0, none⟩ (.int .i64 Z.kind)).setCell ⟨g2, 1, none⟩ (.int .i64 Z.num)).setCell ⟨g2, 2, none⟩ (.slice a1 Z.kids.length n1)) = v5 at *; replace hS1 := hS1'; clear hS1')
   | (have hS1' := bSet3 hS1 HG3.out 0 1 2 (.int .i64 Z.kind) (.int .i64 Z.num) (.slice a1 Z.kids.length n1); refine hK.out _ _ (ph_one (by kernel_rfl) hS1') ?_; clear hK K; replace U3 := tuck (show VarAt g3 Z.kind Z.num (.slice a1 Z.kids.length n1) (((v4.setCell ⟨g3, 0, none⟩ (.int .i64 Z.kind)).setCell ⟨g3, 1, none⟩ (.int .i64 Z.num)).setCell ⟨g3, 2, none⟩ (.slice a1 Z.kids.length n1)) from U3.out.set); replace U1 := tuck (U1.out.far3 q13 0 1 2 (.int .i64 Z.kind) (.int .i64 Z.num) (.slice a1 Z.kids.length n1)); replace U2 := tuck (U2.out.far3 q23 0 1 2 (.int .i64 Z.kind) (.int .i64 Z.num) (.slice a1 Z.kids.length n1)); replace U4 := tuck (U4.out.far3 q43 0 1 2 (.int .i64 Z.kind) (.int .i64 Z.num) (.slice a1 Z.kids.length n1)); generalize (((v4.setCell ⟨g3, 0, none⟩ (.int .i64 Z.kind)).setCell ⟨g3, 1, none⟩ (.int .i64 Z.num)).setCell ⟨g3, 2, none⟩ (.slice a1 Z.kids.length n1)) = v5 at *; replace hS1 := hS1'; clear hS1')
   | (have hS1' := bSet3 hS1 HG4.out 0 1 2 (.int .i64 Z.kind) (.int .i64 Z.num) (.slice a1 Z.kids.length n1); refine hK.out _ _ (ph_one (by kernel_rfl) hS1') ?_; clear hK K; replace U4 := tuck (show VarAt g4 Z.kind Z.num (.slice a1 Z.kids.length n1) (((v4.setCell ⟨g4, 0, none⟩ (.int .i64 Z.kind)).setCell ⟨g4, 1, none⟩ (.int .i64 Z.num)).setCell ⟨g4, 2, none⟩ (.slice a1 Z.kids.length n1)) from U4.out.set); replace U1 := tuck (U1.out.far3 q14 0 1 2 (.int .i64 Z.kind) (.int .i64 Z.num) (.slice a1 Z.kids.length n1)); replace U2 := tuck (U2.out.far3 q24 0 1 2 (.int .i64 Z.kind) (.int .i64 Z.num) (.slice a1 Z.kids.length n1)); replace U3 := tuck (U3.out.far3 q34 0 1 2 (.int .i64 Z.kind) (.int .i64 Z.num) (.slice a1 Z.kids.length n1)); generalize (((v4.setCell ⟨g4, 0, none⟩ (.int .i64 Z.kind)).setCell ⟨g4, 1, none⟩ (.int .i64 Z.num)).setCell ⟨g4, 2, none⟩ (.slice a1 Z.kids.length n1)) = v5 at *; replace hS1 := hS1'; clear hS1')
  all_goals
   obtain ⟨z1, f10, f11, f12, ff1⟩ := U1.out.facts
   obtain ⟨z2, f20, f21, f22, ff2⟩ := U2.out.facts
   obtain ⟨z3, f30, f31, f32, ff3⟩ := U3.out.facts
   obtain ⟨z4, f40, f41, f42, ff4⟩ := U4.out.facts
   refine AnyTwo.step (i := 25) (o := ⟨none, _, _, _, _, _⟩) (by kernel_rfl) rfl (fun K hK => ?_)
   go_simp
   clear z1 f10 f11 f12 ff1 z2 f20 f21 f22 ff2 z3 f30 f31 f32 ff3 z4 f40 f41 f42 ff4
   first
   | (have hS1' := bSet3 hS1 HG1.out 0 1 2 (.int .i64 S.kind) (.int .i64 S.num) (.slice a2 S.kids.length n2); refine hK.out _ _ (ph_one (by kernel_rfl) hS1') ?_; clear hK K; replace U1 := tuck (show VarAt g1 S.kind S.num (.slice a2 S.kids.length n2) (((v5.setCell ⟨g1, 0, none⟩ (.int .i64 S.kind)).setCell ⟨g1, 1, none⟩ (.int .i64 S.num)).setCell ⟨g1, 2, none⟩ (.slice a2 S.kids.length n2)) from U1.out.set); replace U2 := tuck (U2.out.far3 q21 0 1 2 (.int .i64 S.kind) (.int .i64 S.num) (.slice a2 S.kids.length n2)); replace U3 := tuck (U3.out.far3 q31 0 1 2 (.int .i64 S.kind) (.int .i64 S.num) (.slice a2 S.kids.length n2)); replace U4 := tuck (U4.out.far3 q41 0 1 2 (.int .i64 S.kind) (.int .i64 S.num) (.slice a2 S.kids.length n2)); generalize (((v5.setCell ⟨g1, 0, none⟩ (.int .i64 S.kind)).setCell ⟨g1, 1, none⟩ (.int .i64 S.num)).setCell ⟨g1, 2, none⟩ (.slice a2 S.kids.length n2)) = v6 at *; replace hS1 := hS1'; clear hS1')
   | (have hS1' := bSet3 hS1 HG2.out 0 1 2 (.int .i64 S.kind) (.int .i64 S.num) (.slice a2 S.kids.length n2); refine hK.out _ _ (ph_one (by kernel_rfl) hS1') ?_; clear hK K; replace U2 := tuck (show VarAt g2 S.kind S.num (.slice a2 S.kids.length n2) (((v5.setCell ⟨g2, 0, none⟩ (.int .i64 S.kind)).setCell ⟨g2, 1, none⟩ (.int .i64 S.num)).setCell ⟨g2, 2, none⟩ (.slice a2 S.kids.length n2)) from U2.out.set); replace U1 := tuck (U1.out.far3 q12 0 1 2 (.int .i64 S.kind) (.int .i64 S.num) (.slice a2 S.kids.length n2)); replace U3 := tuck (U3.out.far3 q32 0 1 2 (.int .i64 S.kind) (.int .i64 S.num) (.slice a2 S.kids.length n2)); replace U4 := tuck (U4.out.far3 q42 0 1 2 (.int .i64 S.kind) (.int .i64 S.num) (.slice a2 S.kids.length n2)); generalize (((v5.setCell ⟨g2, 0, none⟩ (.int .i64 S.kind)).setCell ⟨g2, 1, none⟩ (.int .i64 S.num)).setCell ⟨g2, 2, none⟩ (.slice a2 S.kids.length n2)) = v6 at *; replace hS1 := hS1'; clear hS1')
   | (have hS1' := bSet3 hS1 HG3.out 0 1 2 (.int .i64 S.kind) (.int .i64 S.num) (.slice a2 S.kids.length n2); refine hK.out _ _ (ph_one (by kernel_rfl) hS1') ?_; clear hK K; replace U3 := tuck (show VarAt g3 S.kind S.num (.slice a2 S.kids.length n2) (((v5.setCell ⟨g3, 0, none⟩ (.int .i64 S.kind)).setCell ⟨g3, 1, none⟩ (.int .i64 S.num)).setCell ⟨g3, 2, none⟩ (.slice a2 S.kids.length n2)) from U3.out.set); replace U1 := tuck (U1.out.far3 q13 0 1 2 (.int .i64 S.kind) (.int .i64 S.num) (.slice a2 S.kids.length n2)); replace U2 := tuck (U2.out.far3 q23 0 1 2 (.int .i64 S.kind) (.int .i64 S.num) (.slice a2 S.kids.length n2)); replace U4 := tuck (U4.out.far3 q43 0 1 2 (.int .i64 S.kind) (.int .i64 S.num) (.slice a2 S.kids.length n2)); generalize (((v5.setCell ⟨g3, 0, none⟩ (.int .i64 S.kind)).setCell ⟨g3, 1, none⟩ (.int .i64 S.num)).setCell ⟨g3, 2, none⟩ (.slice a2 S.kids.length n2)) = v6 at *; replace hS1 := hS1'; clear hS1')
   | (have hS1' := bSet3 hS1 HG4.out 0 1 2 (.int .i64 S.kind) (.int .i64 S.num) (.slice a2 S.kids.length n2); refine hK.out _ _ (ph_one (by kernel_rfl) hS1') ?_; clear hK K; replace U4 := tuck (show VarAt g4 S.kind S.num (.slice a2 S.kids.length n2) (((v5.setCell ⟨g4, 0, none⟩ (.int .i64 S.kind)).setCell ⟨g4, 1, none⟩ (.int .i64 S.num)).setCell ⟨g4, 2, none⟩ (.slice a2 S.kids.length n2)) from U4.out.set); replace U1 := tuck (U1.out.far3 q14 0 1 2 (.int .i64 S.kind) (.int .i64 S.num) (.slice a2 S.kids.length n2)); replace U2 := tuck (U2.out.far3 q24 0 1 2 (.int .i64 S.kind) (.int .i64 S.num) (.slice a2 S.kids.length n2)); replace U3 := tuck (U3.out.far3 q34 0 1 2 (.int .i64 S.kind) (.int .i64 S.num) (.slice a2 S.kids.length n2)); generalize (((v5.setCell ⟨g4, 0, none⟩ (.int .i64 S.kind)).setCell ⟨g4, 1, none⟩ (.int .i64 S.num)).setCell ⟨g4, 2, none⟩ (.slice a2 S.kids.length n2)) = v6 at *; replace hS1 := hS1'; clear hS1')
  all_goals
   obtain ⟨z1, f10, f11, f12, ff1⟩ := U1.out.facts
   obtain ⟨z2, f20, f21, f22, ff2⟩ := U2.out.facts
   obtain ⟨z3, f30, f31, f32, ff3⟩ := U3.out.facts
   obtain ⟨z4, f40, f41, f42, ff4⟩ := U4.out.facts
   refine AnyTwo.step (i := 26) (o := ⟨none, _, _, _, _, _⟩) (by kernel_rfl) rfl (fun K hK => ?_)
   go_simp
   clear z1 f10 f11 f12 ff1 z2 f20 f21 f22 ff2 z3 f30 f31 f32 ff3 z4 f40 f41 f42 ff4
   first
   | (have hS1' := bSet3 hS1 HG1.out 0 1 2 (.int .i64 B.kind) (.int .i64 B.num) (.slice a4 B.kids.length n4); refine hK.out _ _ (ph_end (by kernel_rfl) hS1') ?_; clear hK K; replace U1 := tuck (show VarAt g1 B.kind B.num (.slice a4 B.kids.length n4) (((v6.setCell ⟨g1, 0, none⟩ (.int .i64 B.kind)).setCell ⟨g1, 1, none⟩ (.int .i64 B.num)).setCell ⟨g1, 2, none⟩ (.slice a4 B.kids.length n4)) from U1.out.set); replace U2 := tuck (U2.out.far3 q21 0 1 2 (.int .i64 B.kind) (.int .i64 B.num) (.slice a4 B.kids.length n4)); replace U3 := tuck (U3.out.far3 q31 0 1 2 (.int .i64 B.kind) (.int .i64 B.num) (.slice a4 B.kids.length n4)); replace U4 := tuck (U4.out.far3 q41 0 1 2 (.int .i64 B.kind) (.int .i64 B.num) (.slice a4 B.kids.length n4)); generalize (((v6.setCell ⟨g1, 0, none⟩ (.int .i64 B.kind)).setCell ⟨g1, 1, none⟩ (.int .i64 B.num)).setCell ⟨g1, 2, none⟩ (.slice a4 B.kids.length n4)) = v7 at *; replace hS1 := hS1'; clear hS1')
   | (have hS1' := bSet3 hS1 HG2.out 0 1 2 (.int .i64 B.kind) (.int .i64 B.num) (.slice a4 B.kids.length n4); refine hK.out _ _ (ph_end (by kernel_rfl) hS1') ?_; clear hK K; replace U2 := tuck (show VarAt g2 B.kind B.num (.slice a4 B.kids.length n4) (((v6.setCell ⟨g2, 0, none⟩ (.int .i64 B.kind)).setCell ⟨g2, 1, none⟩ (.int .i64 B.num)).setCell ⟨g2, 2, none⟩ (.slice a4 B.kids.length n4)) from U2.out.set); replace U1 := tuck (U1.out.far3 q12 0 1 2 (.int .i64 B.kind) (.int .i64 B.num) (.slice a4 B.kids.length n4)); replace U3 := tuck (U3.out.far3 q32 0 1 2 (.int .i64 B.kind) (.int .i64 B.num) (.slice a4 B.kids.length n4)); replace U4 := tuck (U4.out.far3 q42 0 1 2 (.int .i64 B.kind) (.int .i64 B.num) (.slice a4 B.kids.length n4)); generalize (((v6.setCell ⟨g2, 0, none⟩ (.int .i64 B.kind)).setCell ⟨g2, 1, none⟩ (.int .i64 B.num)).setCell ⟨g2, 2, none⟩ (.slice a4 B.kids.length n4)) = v7 at *; replace hS1 := hS1'; clear hS1')
   | (have hS1' := bSet3 hS1 HG3.out 0 1 2 (.int .i64 B.kind) (.int .i64 B.num) (.slice a4 B.kids.length n4); refine hK.out _ _ (ph_end (by kernel_rfl) hS1') ?_; clear hK K; replace U3 := tuck (show VarAt g3 B.kind B.num (.slice a4 B.kids.length n4) (((v6.setCell ⟨g3, 0, none⟩ (.int .i64 B.kind)).setCell ⟨g3, 1, none⟩ (.int .i64 B.num)).setCell ⟨g3, 2, none⟩ (.slice a4 B.kids.length n4)) from U3.out.set); replace U1 := tuck (U1.out.far3 q13 0 1 2 (.int .i64 B.kind) (.int .i64 B.num) (.slice a4 B.kids.length n4)); replace U2 := tuck (U2.out.far3 q23 0 1 2 (.int .i64 B.kind) (.int .i64 B.num) (.slice a4 B.kids.length n4)); replace U4 := tuck (U4.out.far3 q43 0 1 2 (.int .i64 B.kind) (.int .i64 B.num) (.slice a4 B.kids.length n4)); generalize (((v6.setCell ⟨g3, 0, none⟩ (.int .i64 B.kind)).setCell ⟨g3, 1, none⟩ (.int .i64 B.num)).setCell ⟨g3, 2, none⟩ (.slice a4 B.kids.length n4)) = v7 at *; replace hS1 := hS1'; clear hS1')
   | (have hS1' := bSet3 hS1 HG4.out 0 1 2 (.int .i64 B.kind) (.int .i64 B.num) (.slice a4 B.kids.length n4); refine hK.out _ _ (ph_end (by kernel_rfl) hS1') ?_; clear hK K; replace U4 := tuck (show VarAt g4 B.kind B.num (.slice a4 B.kids.length n4) (((v6.setCell ⟨g4, 0, none⟩ (.int .i64 B.kind)).setCell ⟨g4, 1, none⟩ (.int .i64 B.num)).setCell ⟨g4, 2, none⟩ (.slice a4 B.kids.length n4)) from U4.out.set); replace U1 := tuck (U1.out.far3 q14 0 1 2 (.int .i64 B.kind) (.int .i64 B.num) (.slice a4 B.kids.length n4)); replace U2 := tuck (U2.out.far3 q24 0 1 2 (.int .i64 B.kind) (.int .i64 B.num) (.slice a4 B.kids.length n4)); replace U3 := tuck (U3.out.far3 q34 0 1 2 (.int .i64 B.kind) (.int .i64 B.num) (.slice a4 B.kids.length n4)); generalize (((v6.setCell ⟨g4, 0, none⟩ (.int .i64 B.kind)).setCell ⟨g4, 1, none⟩ (.int .i64 B.num)).setCell ⟨g4, 2, none⟩ (.slice a4 B.kids.length n4)) = v7 at *; replace hS1 := hS1'; clear hS1')
  all_goals
   refine AnyTwo.done (by kernel_rfl) ?_ _
   go_wp2_with fail
   go_meet
   refine ⟨_, _, _, _, rfl, rfl, rfl, rfl, hS1, ?_, ?_, ?_, ?_⟩ <;> first | exact U1.out | exact U2.out | exact U3.out | exact U4.out
 case rest =>
  obtain ⟨g4, g5, g6, g7, rfl, rfl, rfl, rfl, hb, v4, v5, v6, v7⟩ := hcut
  rename World => W1
  obtain ⟨z4, e40, e41, e42, -⟩ := v4.facts
  obtain ⟨z5, e50, e51, e52, -⟩ := v5.facts
  obtain ⟨z6, e60, e61, e62, -⟩ := v6.facts
  obtain ⟨z7, e70, e71, e72, -⟩ := v7.facts
  have HBW := tuck (bAfter HBX.out hb)
  have HV1 := tuck (V1.out.below hb)
  have hlt1 : w.heap.size + 1 < W1.heap.size := Nat.lt_of_lt_of_le (by have := HBS.out; omega) hb.size
  clear hb v4 v5 v6 v7 d00 d01 d02 d10 d11 d12 d20 d21 d22 d30 d31 d32 d40 d41 d42 y2 z0 HCELLS
  have HSL : Hid (∀ W7 : World, Below w.heap.size w W7 → W7.heap[W1.heap.size]? = some (.cells #[.int .i64 P.kind, .int .i64 P.num, .slice a0 P.kids.length n0, .int .i64 Z.kind, .int .i64 Z.num, .slice a1 Z.kids.length n1, .int .i64 S.kind, .int .i64 S.num, .slice a2 S.kids.length n2, .int .i64 B.kind, .int .i64 B.num, .slice a4 B.kids.length n4] 25) → W7.heap[W1.heap.size + 1 + 1]? = some (.cells #[.int .i64 S.kind, .int .i64 S.num, .slice a2 S.kids.length n2, .int .i64 B.kind, .int .i64 B.num, .slice a4 B.kids.length n4] 25) → W7.heap[W1.heap.size + 1 + 1 + 1 + 1]? = some (.cells #[.int .i64 5, .int .i64 0, .slice (some ⟨W1.heap.size + 1 + 1, 0, none⟩) 2 2, .int .i64 9, .int .i64 0, .slice (some ⟨W1.heap.size, 0, none⟩) 4 4] 25) → SlX W7 X [.mk 5 0 [S, B], .mk 9 0 [P, Z, S, B]] (.slice (some ⟨W1.heap.size + 1 + 1 + 1 + 1, 0, none⟩) 2 2)) := tuck fun W7 hb7 q1 q2 q3 => by
   have hlt1' := hlt1
   have nx : ∀ i, W1.heap.size ≤ i → ¬ X i := fun i hi hx => by have := hX i hx; omega
   have k0 := hs0.below hb7
   have k1 := hs1.below hb7
   have k2 := hs2.below hb7
   have k4 := hs4.below hb7
   have r1 := SlX.of_block (rs := [(P, .slice a0 P.kids.length n0), (Z, .slice a1 Z.kids.length n1), (S, .slice a2 S.kids.length n2), (B, .slice a4 B.kids.length n4)]) (cap := 4) q1 (by simp [cellsL]) (nx _ (by omega)) (by simp [maxLen]) (fun x hx => by
    simp only [List.mem_cons, List.not_mem_nil, or_false] at hx
    rcases hx with rfl | rfl | rfl | rfl
    ·exact k0
    ·exact k1
    ·exact k2
    ·exact k4)
   have r2 := SlX.of_block (rs := [(S, .slice a2 S.kids.length n2), (B, .slice a4 B.kids.length n4)]) (cap := 2) q2 (by simp [cellsL]) (nx _ (by omega)) (by simp [maxLen]) (fun x hx => by
    simp only [List.mem_cons, List.not_mem_nil, or_false] at hx
    rcases hx with rfl | rfl
    ·exact k2
    ·exact k4)
   exact SlX.of_block (rs := [(.mk 5 0 [S, B], .slice (some ⟨W1.heap.size + 1 + 1, 0, none⟩) 2 2), (.mk 9 0 [P, Z, S, B], .slice (some ⟨W1.heap.size, 0, none⟩) 4 4)]) (cap := 2) q3 (by simp [cellsL, Tm.kind, Tm.num]) (nx _ (by omega)) (by simp [maxLen]) (fun x hx => by
    simp only [List.mem_cons, List.not_mem_nil, or_false] at hx
    rcases hx with rfl | rfl
    ·exact r2
    ·exact r1)
  have HHP : Hid (∀ (c : Bool) (W7 : World), c = tr (Tm.Valid (.mk 5 0 [.mk 5 0 [S, B], .mk 9 0 [P, Z, S, B]])) → Below w.heap.size w W7 → W7.heap[W1.heap.size]? = some (.cells #[.int .i64 P.kind, .int .i64 P.num, .slice a0 P.kids.length n0, .int .i64 Z.kind, .int .i64 Z.num, .slice a1 Z.kids.length n1, .int .i64 S.kind, .int .i64 S.num, .slice a2 S.kids.length n2, .int .i64 B.kind, .int .i64 B.num, .slice a4 B.kids.length n4] 25) → W7.heap[W1.heap.size + 1 + 1]? = some (.cells #[.int .i64 S.kind, .int .i64 S.num, .slice a2 S.kids.length n2, .int .i64 B.kind, .int .i64 B.num, .slice a4 B.kids.length n4] 25) → W7.heap[W1.heap.size + 1 + 1 + 1 + 1]? = some (.cells #[.int .i64 5, .int .i64 0, .slice (some ⟨W1.heap.size + 1 + 1, 0, none⟩) 2 2, .int .i64 9, .int .i64 0, .slice (some ⟨W1.heap.size, 0, none⟩) 4 4] 25) → post (.returned (.tuple #[.agg #[.int .i64 5, .int .i64 0, .slice (some ⟨W1.heap.size + 1 + 1 + 1 + 1, 0, none⟩) 2 2], .bool c])) W7) := tuck fun c W7 hc hb7 q1 q2 q3 => by
   rw [← hpost]
   exact ⟨hb7, .mk 5 0 [.mk 5 0 [S, B], .mk 9 0 [P, Z, S, B]], .slice (some ⟨W1.heap.size + 1 + 1 + 1 + 1, 0, none⟩) 2 2, by rw [hc]; rfl, HSL.out W7 hb7 q1 q2 q3, fun _ => rfl⟩
  clear hpost
  go_wp2_with fail
  have Q1 : Hid (((((((W1.alloc (.cells #[.int .i64 P.kind, .int .i64 P.num, .slice a0 P.kids.length n0, .int .i64 Z.kind, .int .i64 Z.num, .slice a1 Z.kids.length n1, .int .i64 S.kind, .int .i64 S.num, .slice a2 S.kids.length n2, .int .i64 B.kind, .int .i64 B.num, .slice a4 B.kids.length n4] 25)).alloc (.cells #[.int .i64 9, .int .i64 0, .slice (some ⟨W1.heap.size, 0, none⟩) 4 4] 25)).alloc (.cells #[.int .i64 S.kind, .int .i64 S.num, .slice a2 S.kids.length n2, .int .i64 B.kind, .int .i64 B.num, .slice a4 B.kids.length n4] 25)).alloc (.cells #[.int .i64 5, .int .i64 0, .slice (some ⟨W1.heap.size + 1 + 1, 0, none⟩) 2 2] 25)).alloc (.cells #[.int .i64 5, .int .i64 0, .slice (some ⟨W1.heap.size + 1 + 1, 0, none⟩) 2 2, .int .i64 9, .int .i64 0, .slice (some ⟨W1.heap.size, 0, none⟩) 4 4] 25)).alloc (.cells #[.int .i64 5, .int .i64 0, .slice (some ⟨W1.heap.size + 1 + 1 + 1 + 1, 0, none⟩) 2 2] 25)).heap[W1.heap.size]? = some (.cells #[.int .i64 P.kind, .int .i64 P.num, .slice a0 P.kids.length n0, .int .i64 Z.kind, .int .i64 Z.num, .slice a1 Z.kids.length n1, .int .i64 S.kind, .int .i64 S.num, .slice a2 S.kids.length n2, .int .i64 B.kind, .int .i64 B.num, .slice a4 B.kids.length n4] 25)) := tuck (heap_keep (heap_keep (heap_keep (heap_keep (heap_keep (heap_new W1 (.cells #[.int .i64 P.kind, .int .i64 P.num, .slice a0 P.kids.length n0, .int .i64 Z.kind, .int .i64 Z.num, .slice a1 Z.kids.length n1, .int .i64 S.kind, .int .i64 S.num, .slice a2 S.kids.length n2, .int .i64 B.kind, .int .i64 B.num, .slice a4 B.kids.length n4] 25)) _) _) _) _) _)
  have Q2 : Hid (((((((W1.alloc (.cells #[.int .i64 P.kind, .int .i64 P.num, .slice a0 P.kids.length n0, .int .i64 Z.kind, .int .i64 Z.num, .slice a1 Z.kids.length n1, .int .i64 S.kind, .int .i64 S.num, .slice a2 S.kids.length n2, .int .i64 B.kind, .int .i64 B.num, .slice a4 B.kids.length n4] 25)).alloc (.cells #[.int .i64 9, .int .i64 0, .slice (some ⟨W1.heap.size, 0, none⟩) 4 4] 25)).alloc (.cells #[.int .i64 S.kind, .int .i64 S.num, .slice a2 S.kids.length n2, .int .i64 B.kind, .int .i64 B.num, .slice a4 B.kids.length n4] 25)).alloc (.cells #[.int .i64 5, .int .i64 0, .slice (some ⟨W1.heap.size + 1 + 1, 0, none⟩) 2 2] 25)).alloc (.cells #[.int .i64 5, .int .i64 0, .slice (some ⟨W1.heap.size + 1 + 1, 0, none⟩) 2 2, .int .i64 9, .int .i64 0, .slice (some ⟨W1.heap.size, 0, none⟩) 4 4] 25)).alloc (.cells #[.int .i64 5, .int .i64 0, .slice (some ⟨W1.heap.size + 1 + 1 + 1 + 1, 0, none⟩) 2 2] 25)).heap[W1.heap.size + 1 + 1]? = some (.cells #[.int .i64 S.kind, .int .i64 S.num, .slice a2 S.kids.length n2, .int .i64 B.kind, .int .i64 B.num, .slice a4 B.kids.length n4] 25)) := tuck (heap_keep (heap_keep (heap_keep (by
   have := heap_new ((W1.alloc (.cells #[.int .i64 P.kind, .int .i64 P.num, .slice a0 P.kids.length n0, .int .i64 Z.kind, .int .i64 Z.num, .slice a1 Z.kids.length n1, .int .i64 S.kind, .int .i64 S.num, .slice a2 S.kids.length n2, .int .i64 B.kind, .int .i64 B.num, .slice a4 B.kids.length n4] 25)).alloc (.cells #[.int .i64 9, .int .i64 0, .slice (some ⟨W1.heap.size, 0, none⟩) 4 4] 25)) (.cells #[.int .i64 S.kind, .int .i64 S.num, .slice a2 S.kids.length n2, .int .i64 B.kind, .int .i64 B.num, .slice a4 B.kids.length n4] 25)
   rwa [show ((W1.alloc (.cells #[.int .i64 P.kind, .int .i64 P.num, .slice a0 P.kids.length n0, .int .i64 Z.kind, .int .i64 Z.num, .slice a1 Z.kids.length n1, .int .i64 S.kind, .int .i64 S.num, .slice a2 S.kids.length n2, .int .i64 B.kind, .int .i64 B.num, .slice a4 B.kids.length n4] 25)).alloc (.cells #[.int .i64 9, .int .i64 0, .slice (some ⟨W1.heap.size, 0, none⟩) 4 4] 25)).heap.size = W1.heap.size + 1 + 1 by simp] at this) _) _) _)
  have Q3 : Hid (((((((W1.alloc (.cells #[.int .i64 P.kind, .int .i64 P.num, .slice a0 P.kids.length n0, .int .i64 Z.kind, .int .i64 Z.num, .slice a1 Z.kids.length n1, .int .i64 S.kind, .int .i64 S.num, .slice a2 S.kids.length n2, .int .i64 B.kind, .int .i64 B.num, .slice a4 B.kids.length n4] 25)).alloc (.cells #[.int .i64 9, .int .i64 0, .slice (some ⟨W1.heap.size, 0, none⟩) 4 4] 25)).alloc (.cells #[.int .i64 S.kind, .int .i64 S.num, .slice a2 S.kids.length n2, .int .i64 B.kind, .int .i64 B.num, .slice a4 B.kids.length n4] 25)).alloc (.cells #[.int .i64 5, .int .i64 0, .slice (some ⟨W1.heap.size + 1 + 1, 0, none⟩) 2 2] 25)).alloc (.cells #[.int .i64 5, .int .i64 0, .slice (some ⟨W1.heap.size + 1 + 1, 0, none⟩) 2 2, .int .i64 9, .int .i64 0, .slice (some ⟨W1.heap.size, 0, none⟩) 4 4] 25)).alloc (.cells #[.int .i64 5, .int .i64 0, .slice (some ⟨W1.heap.size + 1 + 1 + 1 + 1, 0, none⟩) 2 2] 25)).heap[W1.heap.size + 1 + 1 + 1 + 1]? = some (.cells #[.int .i64 5, .int .i64 0, .slice (some ⟨W1.heap.size + 1 + 1, 0, none⟩) 2 2, .int .i64 9, .int .i64 0, .slice (some ⟨W1.heap.size, 0, none⟩) 4 4] 25)) := tuck (heap_keep (by
   have := heap_new ((((W1.alloc (.cells #[.int .i64 P.kind, .int .i64 P.num, .slice a0 P.kids.length n0, .int .i64 Z.kind, .int .i64 Z.num, .slice a1 Z.kids.length n1, .int .i64 S.kind, .int .i64 S.num, .slice a2 S.kids.length n2, .int .i64 B.kind, .int .i64 B.num, .slice a4 B.kids.length n4] 25)).alloc (.cells #[.int .i64 9, .int .i64 0, .slice (some ⟨W1.heap.size, 0, none⟩) 4 4] 25)).alloc (.cells #[.int .i64 S.kind, .int .i64 S.num, .slice a2 S.kids.length n2, .int .i64 B.kind, .int .i64 B.num, .slice a4 B.kids.length n4] 25)).alloc (.cells #[.int .i64 5, .int .i64 0, .slice (some ⟨W1.heap.size + 1 + 1, 0, none⟩) 2 2] 25)) (.cells #[.int .i64 5, .int .i64 0, .slice (some ⟨W1.heap.size + 1 + 1, 0, none⟩) 2 2, .int .i64 9, .int .i64 0, .slice (some ⟨W1.heap.size, 0, none⟩) 4 4] 25)
   rwa [show ((((W1.alloc (.cells #[.int .i64 P.kind, .int .i64 P.num, .slice a0 P.kids.length n0, .int .i64 Z.kind, .int .i64 Z.num, .slice a1 Z.kids.length n1, .int .i64 S.kind, .int .i64 S.num, .slice a2 S.kids.length n2, .int .i64 B.kind, .int .i64 B.num, .slice a4 B.kids.length n4] 25)).alloc (.cells #[.int .i64 9, .int .i64 0, .slice (some ⟨W1.heap.size, 0, none⟩) 4 4] 25)).alloc (.cells #[.int .i64 S.kind, .int .i64 S.num, .slice a2 S.kids.length n2, .int .i64 B.kind, .int .i64 B.num, .slice a4 B.kids.length n4] 25)).alloc (.cells #[.int .i64 5, .int .i64 0, .slice (some ⟨W1.heap.size + 1 + 1, 0, none⟩) 2 2] 25)).heap.size = W1.heap.size + 1 + 1 + 1 + 1 by simp] at this) _)
  have QN : Hid (VarAt (W1.heap.size + 1 + 1 + 1 + 1 + 1) 5 0 (.slice (some ⟨W1.heap.size + 1 + 1 + 1 + 1, 0, none⟩) 2 2) ((((((W1.alloc (.cells #[.int .i64 P.kind, .int .i64 P.num, .slice a0 P.kids.length n0, .int .i64 Z.kind, .int .i64 Z.num, .slice a1 Z.kids.length n1, .int .i64 S.kind, .int .i64 S.num, .slice a2 S.kids.length n2, .int .i64 B.kind, .int .i64 B.num, .slice a4 B.kids.length n4] 25)).alloc (.cells #[.int .i64 9, .int .i64 0, .slice (some ⟨W1.heap.size, 0, none⟩) 4 4] 25)).alloc (.cells #[.int .i64 S.kind, .int .i64 S.num, .slice a2 S.kids.length n2, .int .i64 B.kind, .int .i64 B.num, .slice a4 B.kids.length n4] 25)).alloc (.cells #[.int .i64 5, .int .i64 0, .slice (some ⟨W1.heap.size + 1 + 1, 0, none⟩) 2 2] 25)).alloc (.cells #[.int .i64 5, .int .i64 0, .slice (some ⟨W1.heap.size + 1 + 1, 0, none⟩) 2 2, .int .i64 9, .int .i64 0, .slice (some ⟨W1.heap.size, 0, none⟩) 4 4] 25)).alloc (.cells #[.int .i64 5, .int .i64 0, .slice (some ⟨W1.heap.size + 1 + 1 + 1 + 1, 0, none⟩) 2 2] 25))) := tuck (by
   have := heap_new (((((W1.alloc (.cells #[.int .i64 P.kind, .int .i64 P.num, .slice a0 P.kids.length n0, .int .i64 Z.kind, .int .i64 Z.num, .slice a1 Z.kids.length n1, .int .i64 S.kind, .int .i64 S.num, .slice a2 S.kids.length n2, .int .i64 B.kind, .int .i64 B.num, .slice a4 B.kids.length n4] 25)).alloc (.cells #[.int .i64 9, .int .i64 0, .slice (some ⟨W1.heap.size, 0, none⟩) 4 4] 25)).alloc (.cells #[.int .i64 S.kind, .int .i64 S.num, .slice a2 S.kids.length n2, .int .i64 B.kind, .int .i64 B.num, .slice a4 B.kids.length n4] 25)).alloc (.cells #[.int .i64 5, .int .i64 0, .slice (some ⟨W1.heap.size + 1 + 1, 0, none⟩) 2 2] 25)).alloc (.cells #[.int .i64 5, .int .i64 0, .slice (some ⟨W1.heap.size + 1 + 1, 0, none⟩) 2 2, .int .i64 9, .int .i64 0, .slice (some ⟨W1.heap.size, 0, none⟩) 4 4] 25)) (.cells #[.int .i64 5, .int .i64 0, .slice (some ⟨W1.heap.size + 1 + 1 + 1 + 1, 0, none⟩) 2 2] 25)
   rwa [show (((((W1.alloc (.cells #[.int .i64 P.kind, .int .i64 P.num, .slice a0 P.kids.length n0, .int .i64 Z.kind, .int .i64 Z.num, .slice a1 Z.kids.length n1, .int .i64 S.kind, .int .i64 S.num, .slice a2 S.kids.length n2, .int .i64 B.kind, .int .i64 B.num, .slice a4 B.kids.length n4] 25)).alloc (.cells #[.int .i64 9, .int .i64 0, .slice (some ⟨W1.heap.size, 0, none⟩) 4 4] 25)).alloc (.cells #[.int .i64 S.kind, .int .i64 S.num, .slice a2 S.kids.length n2, .int .i64 B.kind, .int .i64 B.num, .slice a4 B.kids.length n4] 25)).alloc (.cells #[.int .i64 5, .int .i64 0, .slice (some ⟨W1.heap.size + 1 + 1, 0, none⟩) 2 2] 25)).alloc (.cells #[.int .i64 5, .int .i64 0, .slice (some ⟨W1.heap.size + 1 + 1, 0, none⟩) 2 2, .int .i64 9, .int .i64 0, .slice (some ⟨W1.heap.size, 0, none⟩) 4 4] 25)).heap.size = W1.heap.size + 1 + 1 + 1 + 1 + 1 by simp] at this)
  have QZ : Hid (((((((W1.alloc (.cells #[.int .i64 P.kind, .int .i64 P.num, .slice a0 P.kids.length n0, .int .i64 Z.kind, .int .i64 Z.num, .slice a1 Z.kids.length n1, .int .i64 S.kind, .int .i64 S.num, .slice a2 S.kids.length n2, .int .i64 B.kind, .int .i64 B.num, .slice a4 B.kids.length n4] 25)).alloc (.cells #[.int .i64 9, .int .i64 0, .slice (some ⟨W1.heap.size, 0, none⟩) 4 4] 25)).alloc (.cells #[.int .i64 S.kind, .int .i64 S.num, .slice a2 S.kids.length n2, .int .i64 B.kind, .int .i64 B.num, .slice a4 B.kids.length n4] 25)).alloc (.cells #[.int .i64 5, .int .i64 0, .slice (some ⟨W1.heap.size + 1 + 1, 0, none⟩) 2 2] 25)).alloc (.cells #[.int .i64 5, .int .i64 0, .slice (some ⟨W1.heap.size + 1 + 1, 0, none⟩) 2 2, .int .i64 9, .int .i64 0, .slice (some ⟨W1.heap.size, 0, none⟩) 4 4] 25)).alloc (.cells #[.int .i64 5, .int .i64 0, .slice (some ⟨W1.heap.size + 1 + 1 + 1 + 1, 0, none⟩) 2 2] 25)).heap.size = W1.heap.size + 6) := tuck (by simp)
  have QB : Hid (Below W1.heap.size W1 ((((((W1.alloc (.cells #[.int .i64 P.kind, .int .i64 P.num, .slice a0 P.kids.length n0, .int .i64 Z.kind, .int .i64 Z.num, .slice a1 Z.kids.length n1, .int .i64 S.kind, .int .i64 S.num, .slice a2 S.kids.length n2, .int .i64 B.kind, .int .i64 B.num, .slice a4 B.kids.length n4] 25)).alloc (.cells #[.int .i64 9, .int .i64 0, .slice (some ⟨W1.heap.size, 0, none⟩) 4 4] 25)).alloc (.cells #[.int .i64 S.kind, .int .i64 S.num, .slice a2 S.kids.length n2, .int .i64 B.kind, .int .i64 B.num, .slice a4 B.kids.length n4] 25)).alloc (.cells #[.int .i64 5, .int .i64 0, .slice (some ⟨W1.heap.size + 1 + 1, 0, none⟩) 2 2] 25)).alloc (.cells #[.int .i64 5, .int .i64 0, .slice (some ⟨W1.heap.size + 1 + 1, 0, none⟩) 2 2, .int .i64 9, .int .i64 0, .slice (some ⟨W1.heap.size, 0, none⟩) 4 4] 25)).alloc (.cells #[.int .i64 5, .int .i64 0, .slice (some ⟨W1.heap.size + 1 + 1 + 1 + 1, 0, none⟩) 2 2] 25))) := tuck ((((((below1 _ _).alloc (by simp) _).alloc (by simp; omega) _).alloc (by simp; omega) _).alloc (by simp; omega) _).alloc (by simp; omega) _)
  generalize ((((((W1.alloc (.cells #[.int .i64 P.kind, .int .i64 P.num, .slice a0 P.kids.length n0, .int .i64 Z.kind, .int .i64 Z.num, .slice a1 Z.kids.length n1, .int .i64 S.kind, .int .i64 S.num, .slice a2 S.kids.length n2, .int .i64 B.kind, .int .i64 B.num, .slice a4 B.kids.length n4] 25)).alloc (.cells #[.int .i64 9, .int .i64 0, .slice (some ⟨W1.heap.size, 0, none⟩) 4 4] 25)).alloc (.cells #[.int .i64 S.kind, .int .i64 S.num, .slice a2 S.kids.length n2, .int .i64 B.kind, .int .i64 B.num, .slice a4 B.kids.length n4] 25)).alloc (.cells #[.int .i64 5, .int .i64 0, .slice (some ⟨W1.heap.size + 1 + 1, 0, none⟩) 2 2] 25)).alloc (.cells #[.int .i64 5, .int .i64 0, .slice (some ⟨W1.heap.size + 1 + 1, 0, none⟩) 2 2, .int .i64 9, .int .i64 0, .slice (some ⟨W1.heap.size, 0, none⟩) 4 4] 25)).alloc (.cells #[.int .i64 5, .int .i64 0, .slice (some ⟨W1.heap.size + 1 + 1 + 1 + 1, 0, none⟩) 2 2] 25)) = W6 at *
  clear e40 e41 e42 e50 e51 e52 e60 e61 e62 e70 e71 e72
  have hgn : W1.heap.size + 1 + 1 + 1 + 1 + 1 ≠ w.heap.size + 1 := by omega
  have hr1 : W1.heap.size ≠ w.heap.size + 1 := by omega
  have hr2 : W1.heap.size + 1 + 1 ≠ w.heap.size + 1 := by omega
  have hr3 : W1.heap.size + 1 + 1 + 1 + 1 ≠ w.heap.size + 1 := by omega
  have HR := tuck (⟨hr1, hr2, hr3⟩ : W1.heap.size ≠ w.heap.size + 1 ∧ W1.heap.size + 1 + 1 ≠ w.heap.size + 1 ∧ W1.heap.size + 1 + 1 + 1 + 1 ≠ w.heap.size + 1)
  have HB6 := tuck (bAfter HBW.out (bAfter QB.out (Below.refl _ _).drew))
  have HV6 := tuck ((HV1.out.below QB.out).below (Below.refl _ _).drew)
  have HVAL : Hid (Calls Tryz.prog 10 #[.agg #[.int .i64 5, .int .i64 0, .slice (some ⟨W1.heap.size + 1 + 1 + 1 + 1, 0, none⟩) 2 2]] W6.drew (BoolPost W6.drew (tr (Tm.Valid (.mk 5 0 [.mk 5 0 [S, B], .mk 9 0 [P, Z, S, B]]))))) := tuck (validI_any (.mk 5 0 [.mk 5 0 [S, B], .mk 9 0 [P, Z, S, B]]) W6.drew _ ⟨_, rfl, (HSL.out W6.drew HB6.out Q1.out Q2.out Q3.out).sl⟩)
  have hz : W1.heap.size + 1 + 1 + 1 + 1 + 1 < W6.heap.size := by have := QZ.out; omega
  have hq0 : Hid ((fun w' : World => W1.heap.size + 1 + 1 + 1 + 1 + 1 < w'.heap.size ∧ w'.cell? ⟨W1.heap.size + 1 + 1 + 1 + 1 + 1, 0, none⟩ = some (.int .i64 5) ∧ w'.cell? ⟨W1.heap.size + 1 + 1 + 1 + 1 + 1, 1, none⟩ = some (.int .i64 0) ∧ w'.cell? ⟨W1.heap.size + 1 + 1 + 1 + 1 + 1, 2, none⟩ = some (.slice (some ⟨W1.heap.size + 1 + 1 + 1 + 1, 0, none⟩) 2 2)) W6.drew) := tuck ⟨hz, QN.out.facts.2.1, QN.out.facts.2.2.1, QN.out.facts.2.2.2.1⟩
  clear hr1 hr2 hr3 hlt1
  generalize hgN : W1.heap.size + 1 + 1 + 1 + 1 + 1 = gn at *
  have HGN := tuck hgN
  clear hgN
  go_region_held3 (fun w' => gn < w'.heap.size ∧ w'.cell? ⟨gn, 0, none⟩ = some (.int .i64 5) ∧ w'.cell? ⟨gn, 1, none⟩ = some (.int .i64 0) ∧ w'.cell? ⟨gn, 2, none⟩ = some (.slice (some ⟨W1.heap.size + 1 + 1 + 1 + 1, 0, none⟩) 2 2)) (first | exact hq0.out | exact HK2.out | exact HK3.out) ((go_at_call 10; refine HVAL.out.mono ?_; rintro e w2 ⟨rfl, hb2⟩; have HB2 := tuck hb2; have HQN2 := tuck ((QN.out.below (Below.refl _ _).drew).below hb2); have HQN3 := tuck (HQN2.out.far3 hgn 0 1 2 (.int .i64 5) (.int .i64 0) (.slice (some ⟨W1.heap.size + 1 + 1 + 1 + 1, 0, none⟩) 2 2)); have HK2 : Hid ((fun w' : World => gn < w'.heap.size ∧ w'.cell? ⟨gn, 0, none⟩ = some (.int .i64 5) ∧ w'.cell? ⟨gn, 1, none⟩ = some (.int .i64 0) ∧ w'.cell? ⟨gn, 2, none⟩ = some (.slice (some ⟨W1.heap.size + 1 + 1 + 1 + 1, 0, none⟩) 2 2)) w2) := tuck ⟨HQN2.out.facts.1, HQN2.out.facts.2.1, HQN2.out.facts.2.2.1, HQN2.out.facts.2.2.2.1⟩; have HK3 := tuck (show (fun w' : World => gn < w'.heap.size ∧ w'.cell? ⟨gn, 0, none⟩ = some (.int .i64 5) ∧ w'.cell? ⟨gn, 1, none⟩ = some (.int .i64 0) ∧ w'.cell? ⟨gn, 2, none⟩ = some (.slice (some ⟨W1.heap.size + 1 + 1 + 1 + 1, 0, none⟩) 2 2)) _ from ⟨HQN3.out.facts.1, HQN3.out.facts.2.1, HQN3.out.facts.2.2.1, HQN3.out.facts.2.2.2.1⟩); obtain ⟨zr, r0, r1, r2, rf⟩ := (HV6.out.below hb2).facts; clear hb2))
  all_goals (try go_wp2_with fail)
  all_goals
   refine bodyPost_ret (v := .tuple #[.agg #[.int .i64 5, .int .i64 0, .slice (some ⟨W1.heap.size + 1 + 1 + 1 + 1, 0, none⟩) 2 2], .bool (tr (Tm.Valid (.mk 5 0 [.mk 5 0 [S, B], .mk 9 0 [P, Z, S, B]])))]) (by simp [results, Tryz.results78, go_sem, *]) rfl (HHP.out _ _ rfl ?_ ?_ ?_ ?_)
   ·exact bSet3 (bAfter HB6.out HB2.out) (Nat.le_succ _) _ _ _ _ _ _
   ·exact heap_set3 _ _ _ _ _ _ _ _ HR.out.1 ((HB2.out.block _ (by have := QZ.out; show _ < W6.heap.size; omega)).trans Q1.out)
   ·exact heap_set3 _ _ _ _ _ _ _ _ HR.out.2.1 ((HB2.out.block _ (by have := QZ.out; show _ < W6.heap.size; omega)).trans Q2.out)
   ·exact heap_set3 _ _ _ _ _ _ _ _ HR.out.2.2 ((HB2.out.block _ (by have := QZ.out; show _ < W6.heap.size; omega)).trans Q3.out)
end Go.Proofs.YtlbikgnanabjgaaGreat
