/-
  PlQ, PlR.
-/
import Derived.Test.YtpddjebdncaceaaGreatR12
import Derived.Test.YtpddjebdncaceaaGreatR29
import Derived.Test.YtpddjebdncaceaaGreatR30
import Derived.Deep.DeepCutAuto
import Derived.LoopIn
import Derived.LoopNIn
import Derived.OwnWalkIn
import Derived.TacticsInMore
namespace Go.Proofs.YtpddjebdncaceaaGreat
open Go.RowKit
theorem Passed.unsnoc {u : World} {y : Tm} {i : Nat} : ∀ {p : List (Tm × Nat)} {qs : List (Tm × Value × Nat)}, Passed u (p ++ [(y, i)]) qs → ∃ qs' s, qs = qs' ++ [(y, s, i)] ∧ Passed u p qs' ∧ SlIn u 0 y.kids s
 | [], [(_, s, _)], h => by
  obtain ⟨rfl, rfl, h, -⟩ := h
  exact ⟨[], s, rfl, trivial, h⟩
 | [], [], h => by cases h
 | [], _ :: _ :: _, h => by cases h.2.2.2
 | (a, j) :: p, q :: qs, h => by
  obtain ⟨h1, h2, h3, h4⟩ := h
  obtain ⟨qs', s, rfl, h5, h6⟩ := Passed.unsnoc (p := p) (qs := qs) h4
  exact ⟨q :: qs', s, rfl, ⟨h1, h2, h3, h5⟩, h6⟩
 | _ :: _, [], h => by cases h
def UpPost (u : World) (g : Nat) (y : Tm) (p : List (Tm × Nat)) (i : Nat) (M : Nat → Prop) (w : World) (e : Ending) (w' : World) : Prop := e = .returned (.tuple #[.int .i64 (i : Int), .bool true]) ∧ ∃ M', Step M w w' M' ∧ CurAt u g y p M' w'
set_option maxRecDepth 100000 in
set_option maxHeartbeats 1600000 in
theorem up_yes {u w : World} {g : Nat} {t y : Tm} {p : List (Tm × Nat)} {M : Nat → Prop} {i : Nat} (hp : p.length < 100) (h : CurAt u g t (p ++ [(y, i)]) M w) :
  Calls Tryz.prog 137 #[.pointer (some ⟨g, 0, none⟩)] w (UpPost u g y p i M w) := by
 obtain ⟨hu, s, qs, hs, hpas, hst⟩ := h
 obtain ⟨qs', sy, rfl, hpas', hsy⟩ := Passed.unsnoc hpas
 obtain ⟨ya, yc, rfl⟩ := hsy.form
 have hlt := hst.lt
 obtain ⟨sa, gb, cap, hcv, hgb, hcells⟩ := hst.view
 have hql := hpas'.length
 rw [List.length_append, List.length_singleton, hql] at hcv
 obtain ⟨rfl, hgbw⟩ := hgb (by simp)
 obtain ⟨k0, k1, k2, k3⟩ := stkCells_get (qs' ++ [(y, .slice ya y.kids.length yc, i)]) p.length (by simp [hql])
 have hent : entry (qs' ++ [(y, .slice ya y.kids.length yc, i)]) p.length = (y, .slice ya y.kids.length yc, i) := by unfold entry; rw [← hql]; simp
 rw [hent] at k0 k1 k2 k3
 have c0 := hcells _ _ k0
 have c1 := hcells _ _ k1
 have c2 := hcells _ _ k2
 have c3 := hcells _ _ k3
 have zg := World.block_lt_of_cell? w _ hcv
 have HPOP : Hid (∀ w1, Below w.heap.size w w1 → Calls Tryz.prog 127 #[.pointer (some ⟨g, 3, none⟩)] w1 (StackPost g 3 81 #[.int .i64 t.kind, .int .i64 t.num, s, .slice none 0 0] qs' M w1)) := tuck fun w1 hb => pop_any (hst.below hb)
 have HPOST : Hid (∀ w' M' (v : Value), Step M w w' M' → View u M' w' → v = .slice ya y.kids.length yc → StkAt g 3 81 #[.int .i64 y.kind, .int .i64 y.num, v, .slice none 0 0] qs' M' w' → UpPost u g y p i M w (.returned (.tuple #[.int .i64 (i : Int), .bool true])) w') := tuck fun w' M' v h1 h2 h3 h4 => by
  subst h3
  exact ⟨rfl, M', h1, h2, _, _, hsy, hpas', h4⟩
 generalize UpPost u g y p i M w = post at *
 have HU := tuck hu
 have HLT := tuck hlt
 have HOWN : Hid (M g) := tuck hst.own
 clear hst hcells hgb hpas hs hu hlt hent k0 k1 k2 k3 hsy hpas' hql
 generalize p.length = n at *
 have hne : (((n + 1 : Nat) : Int) == 0) = false := by simp; omega
 have hn1 : ((n + 1 : Nat) : Int) - 1 = (n : Int) := by omega
 have hn0 : (0 : Int) ≤ (n : Int) := by omega
 have hwn : IntKind.i64.wrap (n : Int) = (n : Int) := IntWalk.i64_in _ (by omega)
 have hnl2 : (n : Int) < (n : Int) + 1 := by omega
 have hnl : (n : Int) < ((n + 1 : Nat) : Int) := by omega
 have HOLD : Hid (∀ w', Below w.heap.size w w' → (fun w' : World => Below w.heap.size w w' ∧ (g < w'.heap.size ∧ gb < w'.heap.size) ∧ w'.cell? ⟨g, 3, none⟩ = some (.slice (some ⟨gb, 0, none⟩) (n + 1) cap) ∧ w'.cell? ⟨gb, n * 4, none⟩ = some (.int .i64 y.kind) ∧ w'.cell? ⟨gb, n * 4 + 1, none⟩ = some (.int .i64 y.num) ∧ w'.cell? ⟨gb, n * 4 + 2, none⟩ = some (.slice ya y.kids.length yc) ∧ w'.cell? ⟨gb, n * 4 + 3, none⟩ = some (.int .i64 (i : Int))) w') := tuck fun w' h => ⟨h, ⟨Nat.lt_of_lt_of_le zg h.size, Nat.lt_of_lt_of_le hgbw h.size⟩, (h.cell (p := ⟨g, 3, none⟩) zg).trans hcv, (h.cell (p := ⟨gb, n * 4, none⟩) hgbw).trans c0, (h.cell (p := ⟨gb, n * 4 + 1, none⟩) hgbw).trans c1, (h.cell (p := ⟨gb, n * 4 + 2, none⟩) hgbw).trans c2, (h.cell (p := ⟨gb, n * 4 + 3, none⟩) hgbw).trans c3⟩
 go_enter Tryz.func137, Tryz.ntmps137
 go_upto_region 3 with fail
 refine AnyTwo.begin (fun w' : World => Below w.heap.size w w' ∧ (g < w'.heap.size ∧ gb < w'.heap.size) ∧ w'.cell? ⟨g, 3, none⟩ = some (.slice (some ⟨gb, 0, none⟩) (n + 1) cap) ∧ w'.cell? ⟨gb, n * 4, none⟩ = some (.int .i64 y.kind) ∧ w'.cell? ⟨gb, n * 4 + 1, none⟩ = some (.int .i64 y.num) ∧ w'.cell? ⟨gb, n * 4 + 2, none⟩ = some (.slice ya y.kids.length yc) ∧ w'.cell? ⟨gb, n * 4 + 3, none⟩ = some (.int .i64 (i : Int))) (fun _ => True) 13 (by kernel_rfl) ?_
 have hS1 : (fun w' : World => Below w.heap.size w w' ∧ (g < w'.heap.size ∧ gb < w'.heap.size) ∧ w'.cell? ⟨g, 3, none⟩ = some (.slice (some ⟨gb, 0, none⟩) (n + 1) cap) ∧ w'.cell? ⟨gb, n * 4, none⟩ = some (.int .i64 y.kind) ∧ w'.cell? ⟨gb, n * 4 + 1, none⟩ = some (.int .i64 y.num) ∧ w'.cell? ⟨gb, n * 4 + 2, none⟩ = some (.slice ya y.kids.length yc) ∧ w'.cell? ⟨gb, n * 4 + 3, none⟩ = some (.int .i64 (i : Int))) _ := HOLD.out _ (Below.refl _ _).drew
 refine AnyTwo.take (i := 0) (oi := ⟨some 11, _, _, _, _, _⟩) (v := ?vr0) rfl (by kernel_rfl) (by kernel_rfl) (by decide +kernel) (by kernel_rfl) (by rfl) (by kernel_rfl) (fun _ _ _ h => h) (Or.inl ⟨by rfl, ?yr0⟩) hS1 ?rr0
 case yr0 => (intro w hSw; (try dsimp only at hSw); go_simp; try (with_reducible rfl))
 try simp only [Act.put, List.setIfInBounds_toArray, List.set_cons_zero, List.set_cons_succ]
 refine AnyTwo.take (i := 1) (oi := ⟨some 12, _, _, _, _, _⟩) (v := ?vr1) rfl (by kernel_rfl) (by kernel_rfl) (by decide +kernel) (by kernel_rfl) (by rfl) (by kernel_rfl) (fun _ _ _ h => h) (Or.inl ⟨by rfl, ?yr1⟩) hS1 ?rr1
 case yr1 => (intro w hSw; (try dsimp only at hSw); go_simp; try (with_reducible rfl))
 try simp only [Act.put, List.setIfInBounds_toArray, List.set_cons_zero, List.set_cons_succ]
 refine AnyTwo.take (i := 2) (oi := ⟨some 13, _, _, _, _, _⟩) (v := ?vr2) rfl (by kernel_rfl) (by kernel_rfl) (by decide +kernel) (by kernel_rfl) (by rfl) (by kernel_rfl) (fun _ _ _ h => h) (Or.inl ⟨by rfl, ?yr2⟩) hS1 ?rr2
 case yr2 => (intro w hSw; (try dsimp only at hSw); go_simp; try (with_reducible rfl))
 try simp only [Act.put, List.setIfInBounds_toArray, List.set_cons_zero, List.set_cons_succ]
 refine AnyTwo.take (i := 3) (oi := ⟨some 14, _, _, _, _, _⟩) (v := ?vr3) rfl (by kernel_rfl) (by kernel_rfl) (by decide +kernel) (by kernel_rfl) (by rfl) (by kernel_rfl) (fun _ _ _ h => h) (Or.inl ⟨by rfl, ?yr3⟩) hS1 ?rr3
 case yr3 => (intro w hSw; (try dsimp only at hSw); go_simp; try (with_reducible rfl))
 try simp only [Act.put, List.setIfInBounds_toArray, List.set_cons_zero, List.set_cons_succ]
 refine AnyTwo.take (i := 4) (oi := ⟨some 15, _, _, _, _, _⟩) (v := ?vr4) rfl (by kernel_rfl) (by kernel_rfl) (by decide +kernel) (by kernel_rfl) (by rfl) (by kernel_rfl) (fun _ _ _ h => h) (Or.inl ⟨by rfl, ?yr4⟩) hS1 ?rr4
 case yr4 => (intro w hSw; (try dsimp only at hSw); go_simp; try (with_reducible rfl))
 try simp only [Act.put, List.setIfInBounds_toArray, List.set_cons_zero, List.set_cons_succ]
 refine AnyTwo.take (i := 5) (oi := ⟨some 16, _, _, _, _, _⟩) (v := ?vr5) rfl (by kernel_rfl) (by kernel_rfl) (by decide +kernel) (by kernel_rfl) (by rfl) (by kernel_rfl) (fun _ _ _ h => h) (Or.inl ⟨by rfl, ?yr5⟩) hS1 ?rr5
 case yr5 => (intro w hSw; (try dsimp only at hSw); go_simp; try (with_reducible rfl))
 try simp only [Act.put, List.setIfInBounds_toArray, List.set_cons_zero, List.set_cons_succ]
 refine AnyTwo.take (i := 6) (oi := ⟨some 17, _, _, _, _, _⟩) (v := ?vr6) rfl (by kernel_rfl) (by kernel_rfl) (by decide +kernel) (by kernel_rfl) (by rfl) (by kernel_rfl) (fun _ _ _ h => h) (Or.inl ⟨by rfl, ?yr6⟩) hS1 ?rr6
 case yr6 => (intro w hSw; (try dsimp only at hSw); go_simp; try (with_reducible rfl))
 try simp only [Act.put, List.setIfInBounds_toArray, List.set_cons_zero, List.set_cons_succ]
 refine AnyTwo.take (i := 7) (oi := ⟨some 18, _, _, _, _, _⟩) (v := ?vr7) rfl (by kernel_rfl) (by kernel_rfl) (by decide +kernel) (by kernel_rfl) (by rfl) (by kernel_rfl) (fun _ _ _ h => h) (Or.inl ⟨by rfl, ?yr7⟩) hS1 ?rr7
 case yr7 => (intro w hSw; (try dsimp only at hSw); go_simp; try (with_reducible rfl))
 try simp only [Act.put, List.setIfInBounds_toArray, List.set_cons_zero, List.set_cons_succ]
 refine AnyTwo.take (i := 8) (oi := ⟨some 19, _, _, _, _, _⟩) (v := ?vr8) rfl (by kernel_rfl) (by kernel_rfl) (by decide +kernel) (by kernel_rfl) (by rfl) (by kernel_rfl) (fun _ _ _ h => h) (Or.inl ⟨by rfl, ?yr8⟩) hS1 ?rr8
 case yr8 => (intro w hSw; (try dsimp only at hSw); go_simp; try (with_reducible rfl))
 try simp only [Act.put, List.setIfInBounds_toArray, List.set_cons_zero, List.set_cons_succ]
 refine AnyTwo.take (i := 9) (oi := ⟨some 20, _, _, _, _, _⟩) (v := ?vr9) rfl (by kernel_rfl) (by kernel_rfl) (by decide +kernel) (by kernel_rfl) (by rfl) (by kernel_rfl) (fun _ _ _ h => h) (Or.inl ⟨by rfl, ?yr9⟩) hS1 ?rr9
 case yr9 => (intro w hSw; (try dsimp only at hSw); go_simp; try (with_reducible rfl))
 try simp only [Act.put, List.setIfInBounds_toArray, List.set_cons_zero, List.set_cons_succ]
 refine AnyTwo.take (i := 10) (oi := ⟨some 21, _, _, _, _, _⟩) (v := ?vr10) rfl (by kernel_rfl) (by kernel_rfl) (by decide +kernel) (by kernel_rfl) (by rfl) (by kernel_rfl) (fun _ _ _ h => h) (Or.inl ⟨by rfl, ?yr10⟩) hS1 ?rr10
 case yr10 => (intro w hSw; (try dsimp only at hSw); go_simp; try (with_reducible rfl))
 try simp only [Act.put, List.setIfInBounds_toArray, List.set_cons_zero, List.set_cons_succ]
 refine AnyTwo.take (i := 11) (oi := ⟨some 22, _, _, _, _, _⟩) (v := ?vr11) rfl (by kernel_rfl) (by kernel_rfl) (by decide +kernel) (by kernel_rfl) (by rfl) (by kernel_rfl) (fun _ _ _ h => h) (Or.inl ⟨by rfl, ?yr11⟩) hS1 ?rr11
 case yr11 => (intro w hSw; (try dsimp only at hSw); go_simp; try (with_reducible rfl))
 try simp only [Act.put, List.setIfInBounds_toArray, List.set_cons_zero, List.set_cons_succ]
 refine AnyTwo.step (i := 12) (o := ⟨some 4, _, _, _, _, _⟩) (by kernel_rfl) rfl (fun K hK => ?_)
 go_simp
 have hS1' : (fun w' : World => Below w.heap.size w w' ∧ (g < w'.heap.size ∧ gb < w'.heap.size) ∧ w'.cell? ⟨g, 3, none⟩ = some (.slice (some ⟨gb, 0, none⟩) (n + 1) cap) ∧ w'.cell? ⟨gb, n * 4, none⟩ = some (.int .i64 y.kind) ∧ w'.cell? ⟨gb, n * 4 + 1, none⟩ = some (.int .i64 y.num) ∧ w'.cell? ⟨gb, n * 4 + 2, none⟩ = some (.slice ya y.kids.length yc) ∧ w'.cell? ⟨gb, n * 4 + 3, none⟩ = some (.int .i64 (i : Int))) _ := HOLD.out _ (bAfter hS1.1 (below1 _ (.cells #[.int .i64 0, .int .i64 0, .slice none 0 0, .int .i64 0] 169)))
 refine hK.out _ _ (ph_one (by kernel_rfl) hS1') ?_
 clear hK K hS1
 have hS1 := hS1'
 clear hS1'
 try simp only [Act.put, List.setIfInBounds_toArray, List.set_cons_zero, List.set_cons_succ]
 refine AnyTwo.step (i := 13) (o := ⟨none, _, _, _, _, _⟩) (by kernel_rfl) rfl (fun K hK => ?_)
 go_simp
 refine hK.out _ _ (ph_end (by kernel_rfl) trivial) ?_
 clear hK K
 try simp only [Act.put, List.setIfInBounds_toArray, List.set_cons_zero, List.set_cons_succ]
 refine AnyTwo.done (by kernel_rfl) ?_ _
 have HB1 := tuck ((below1 w (.cells #[.int .i64 y.kind, .int .i64 y.num, .slice ya y.kids.length yc, .int .i64 (i : Int)] 169)).drew)
 have HBK : Hid ((w.alloc (.cells #[.int .i64 y.kind, .int .i64 y.num, .slice ya y.kids.length yc, .int .i64 (i : Int)] 169)).drew.heap[w.heap.size]? = some (.cells #[.int .i64 y.kind, .int .i64 y.num, .slice ya y.kids.length yc, .int .i64 (i : Int)] 169 (0, 0))) := tuck (heap_new w (.cells #[.int .i64 y.kind, .int .i64 y.num, .slice ya y.kids.length yc, .int .i64 (i : Int)] 169))
 have HBZ : Hid (w.heap.size < (w.alloc (.cells #[.int .i64 y.kind, .int .i64 y.num, .slice ya y.kids.length yc, .int .i64 (i : Int)] 169)).drew.heap.size) := tuck (show w.heap.size < (w.alloc (.cells #[.int .i64 y.kind, .int .i64 y.num, .slice ya y.kids.length yc, .int .i64 (i : Int)] 169)).heap.size by simp)
 have hnM : ¬ M w.heap.size := fun h => by have := (HLT.out _ h).2; omega
 generalize (w.alloc (.cells #[.int .i64 y.kind, .int .i64 y.num, .slice ya y.kids.length yc, .int .i64 (i : Int)] 169)).drew = W1 at *
 clear hS1 hcv c0 c1 c2 c3
 go_wp2_with fail
 refine (HPOP.out _ HB1.out).mono ?_
 rintro e w2 ⟨rfl, M', hst, hstk⟩
 obtain ⟨zb, db, -⟩ := block_of_cells ((hst.block _ HBZ.out hnM).trans HBK.out)
 have b0 : w2.cell? ⟨w.heap.size, 0, none⟩ = some (.int .i64 y.kind) := db 0
 have b1 : w2.cell? ⟨w.heap.size, 1, none⟩ = some (.int .i64 y.num) := db 1
 have b2 : w2.cell? ⟨w.heap.size, 2, none⟩ = some (.slice ya y.kids.length yc) := db 2
 have b3 : w2.cell? ⟨w.heap.size, 3, none⟩ = some (.int .i64 (i : Int)) := db 3
 obtain ⟨zg2, d0, d1, d2, df⟩ := cur_cells hstk
 have hne1 : w.heap.size ≠ g := by have := (HLT.out _ HOWN.out).2; omega
 have hne2 : g ≠ w.heap.size := fun e => hne1 e.symm
 have HST := tuck ((Step.of_below (M := M) HB1.out (fun i hi => (HLT.out i hi).2)).trans hst)
 have HVW := tuck ((HU.out.below HB1.out).step hst)
 have HSK := tuck hstk
 clear hst hstk db HPOP
 go_wp2_with fail
 exact HPOST.out _ M' _ (HST.out.set3 HSK.out.own _ _ _) (HVW.out.set3 HSK.out.own _ _ _) rfl (cur_put HSK.out)
set_option maxRecDepth 100000 in
theorem up_no {u w : World} {g : Nat} {t : Tm} {M : Nat → Prop} (h : CurAt u g t [] M w) :
  Calls Tryz.prog 137 #[.pointer (some ⟨g, 0, none⟩)] w fun e w' => e = .returned (.tuple #[.int .i64 0, .bool false]) ∧ w' = w := by
 obtain ⟨hu, s, qs, hs, hpas, hst⟩ := h
 obtain ⟨sa, gb, cap, hcv, -, -⟩ := hst.view
 have hql := hpas.length
 rw [hql] at hcv
 have zg := World.block_lt_of_cell? w _ hcv
 obtain ⟨post, hpost⟩ : ∃ post : Ending → World → Prop, post = (fun e w' => e = .returned (.tuple #[.int .i64 0, .bool false]) ∧ w' = w) := ⟨_, rfl⟩
 rw [← hpost]
 have HP : Hid (post (.returned (.tuple #[.int .i64 0, .bool false])) w) := tuck (by rw [hpost]; exact ⟨rfl, rfl⟩)
 clear hpost hst hpas hs hu hql
 simp only [List.length_nil] at hcv
 go_enter Tryz.func137, Tryz.ntmps137
 go_wp2_with fail
 exact HP.out
theorem inPath_unsnoc {y : Tm} {i : Nat} : ∀ {p : List (Tm × Nat)}, InPath (p ++ [(y, i)]) → InPath p ∧ i < y.kids.length
 | [], h => ⟨trivial, h.1⟩
 | (_, _) :: p, h => ⟨⟨h.1, (inPath_unsnoc (p := p) h.2).1⟩, (inPath_unsnoc (p := p) h.2).2⟩
def stkLen (g : Nat) (w : World) : Nat := match w.cell? ⟨g, 3, none⟩ with
 | some (.slice _ n _) => n
 | _ => 0
theorem CurAt.stk {u w : World} {g : Nat} {t : Tm} {p : List (Tm × Nat)} {M : Nat → Prop} (h : CurAt u g t p M w) : stkLen g w = p.length := by
 obtain ⟨hu, s, qs, hs, hpas, hst⟩ := h
 obtain ⟨sa, gb, cap, hcv, -, -⟩ := hst.view
 unfold stkLen
 rw [hcv, ← hpas.length]
def CurNext (u : World) (g : Nat) (r : Option (List (Tm × Nat) × Tm)) (M : Nat → Prop) (w : World) (e : Ending) (w' : World) : Prop :=
 match r with
 | some y => e = .returned (.bool true) ∧ ∃ M', Step M w w' M' ∧ CurAt u g y.2 y.1 M' w'
 | none => e = .returned (.bool false) ∧ ∃ M', Step M w w' M' ∧ ∃ x, CurAt u g x [] M' w'
set_option maxRecDepth 100000 in
set_option maxHeartbeats 1600000 in
theorem cur_next_any {u w : World} {g : Nat} {t : Tm} {p : List (Tm × Nat)} {M : Nat → Prop} (hv : t.Valid) (hin : InPath p) (hpv : ∀ z ∈ p, z.1.Valid) (hp : p.length ≤ 40) (h : CurAt u g t p M w) :
  Calls Tryz.prog 125 #[.pointer (some ⟨g, 0, none⟩)] w (CurNext u g (nextAt (p, t)) M w) := by
 have HH := tuck h
 have h4 := hv.kids4
 by_cases h0 : 0 < t.kids.length
 ·have hn : nextAt (p, t) = some (p ++ [(t, 0)], kidT t 0) := by unfold nextAt; rw [if_pos h0]
  rw [hn]
  have HD := tuck (down_yes 0 h0 (by omega) h)
  have HP : Hid (∀ w', (∃ M', Step M w w' M' ∧ CurAt u g (kidT t 0) (p ++ [(t, 0)]) M' w') → CurNext u g (some (p ++ [(t, 0)], kidT t 0)) M w (.returned (.bool true)) w') := tuck fun w' h => ⟨rfl, h⟩
  generalize CurNext u g (some (p ++ [(t, 0)], kidT t 0)) M w = post at *
  clear h hn HH
  go_enter Tryz.func125, Tryz.ntmps125
  go_wp2_with fail
  refine HD.out.mono ?_
  rintro e w1 ⟨rfl, hm⟩
  go_wp2_with fail
  exact HP.out _ hm
 have hn : nextAt (p, t) = climb p := by unfold nextAt; rw [if_neg h0]
 rw [hn]
 have HD := tuck (down_no 0 (by omega) h)
 have HPY : Hid (∀ y, climb p = some y → ∀ w' M', Step M w w' M' → CurAt u g y.2 y.1 M' w' → CurNext u g (climb p) M w (.returned (.bool true)) w') := tuck fun y hy w' M' h1 h2 => by rw [hy]; exact ⟨rfl, M', h1, h2⟩
 have HPN : Hid (climb p = none → ∀ w' M' x, Step M w w' M' → CurAt u g x [] M' w' → CurNext u g (climb p) M w (.returned (.bool false)) w') := tuck fun hy w' M' x h1 h2 => by rw [hy]; exact ⟨rfl, M', h1, x, h2⟩
 have HLT := tuck h.lt
 generalize CurNext u g (climb p) M w = post at *
 clear h hn h0
 go_enter Tryz.func125, Tryz.ntmps125
 go_wp2_with fail
 refine HD.out.mono ?_
 rintro e w1 ⟨rfl, rfl⟩
 go_wp2_with fail
 go_loopw [3] (fun _ wr => ∃ (q : List (Tm × Nat)) (x : Tm) (M' : Nat → Prop), climb q = climb p ∧ q.length ≤ 40 ∧ InPath q ∧ (∀ z ∈ q, z.1.Valid) ∧ Step M w1 wr M' ∧ CurAt u g x q M' wr) (fun _ wr => stkLen g wr)
 case atStart => exact ⟨p, t, M, rfl, hp, hin, hpv, Step.refl fun i hi => (HLT.out i hi).2, HH.out⟩
 case round =>
  obtain ⟨q, x, M', hcq, hq, hqi, hqv, hst, hcur⟩ := hrel
  rcases List.eq_nil_or_concat q with rfl | ⟨r, ⟨y, i⟩, rfl⟩
  ·have HU := tuck (up_no hcur)
   have HQ := tuck (HPN.out (hcq.symm.trans climb_nil) _ M' x hst hcur)
   clear hst hcur hcq hqv HPN HPY HH
   go_wp2_with fail
   refine HU.out.mono ?_
   rintro e w2 ⟨rfl, rfl⟩
   go_wp2_with fail
   exact HQ.out
  ·rw [List.concat_eq_append] at *
   rw [List.length_append, List.length_singleton] at hq
   have HU := tuck (up_yes (by omega) hcur)
   have hlen := hcur.stk
   rw [List.length_append, List.length_singleton] at hlen
   have hyv : y.Valid := hqv (y, i) (by simp)
   have hy4 := hyv.kids4
   have HRV : Hid (∀ z ∈ r, z.1.Valid) := tuck fun z hz => hqv z (by simp [hz])
   rw [climb_snoc] at hcq
   have HST := tuck hst
   have HCQ := tuck hcq
   have HLEN := tuck hlen
   obtain ⟨hri, hiy⟩ := inPath_unsnoc hqi
   have HRI := tuck hri
   clear hst hcur hcq hqv hlen hqi hri
   go_wp2_with fail
   refine HU.out.mono ?_
   rintro e w2 ⟨rfl, M2, hst2, hcur2⟩
   have HST2 := tuck (HST.out.trans hst2)
   have HC2 := tuck hcur2
   have hi1 : ((i : Int) + 1) = ((i + 1 : Nat) : Int) := by omega
   clear hst2 hcur2 HU HST
   by_cases hlt : i + 1 < y.kids.length
   ·have HDY := tuck (down_yes (i + 1) hlt (by omega) HC2.out)
    have hcq := HCQ.out
    rw [if_pos hlt] at hcq
    have HQ := tuck (HPY.out _ hcq.symm)
    rw [← hi1] at HDY
    clear hcq hi1
    go_wp2_with fail
    refine HDY.out.mono ?_
    rintro e w3 ⟨rfl, M3, hst3, hcur3⟩
    have HEND := tuck (HQ.out w3 M3 (HST2.out.trans hst3) hcur3)
    clear hst3 hcur3
    go_wp2_with fail
    exact HEND.out
   ·have HDN := tuck (down_no ((i : Int) + 1) (by omega) HC2.out)
    have hcq := HCQ.out
    rw [if_neg hlt] at hcq
    have HCQ2 := tuck hcq
    clear hcq hi1
    go_wp2_with fail
    refine HDN.out.mono ?_
    rintro e w3 ⟨rfl, rfl⟩
    go_wp2_with fail
    go_roundw
    case rel => exact ⟨r, y, M2, HCQ2.out, by omega, HRI.out, HRV.out, HST2.out, HC2.out⟩
    case measure => rw [HC2.out.stk, HLEN.out]; omega
end Go.Proofs.YtpddjebdncaceaaGreat
namespace Go.Proofs.YtpddjebdncaceaaGreat
open Go.RowKit Go.Shelf
attribute [local go_sem] Oper.semAt_some
theorem rounds_of {F : Fence} {n : Nat} {P : Program} {c : Code} {Q : Exit → Act → World → Prop} {R : Nat → Act → World → Prop} (h0 : ∀ a w, ¬ R 0 a w) (h : ∀ m a w, R (m + 1) a w → c.wpIn F n P (Exit.then (R m) Q) a w) : ∀ m a w, R m a w → Code.roundsIn F n P c Q m a w
 | 0, a, w, hr => absurd hr (h0 a w)
 | m + 1, a, w, hr => by
  rw [roundsIn_succ]
  refine wpIn_mono (h m a w hr) ?_
  intro e a' w' he
  cases e with
  | normal => exact rounds_of h0 h m a' w' he
  | ret => exact he
  | exit id => exact he
  | goto t => exact he
  | panic ch => exact he
  | outgrown => exact he
theorem Step.new {w : World} (o : Obj) : Step (fun _ => False) w (w.alloc o) (fun i => i = w.heap.size ∨ (Value.slice none 0 0).ownBlock = some i) :=
 ⟨rfl, rfl, rfl, (below1 w o).size, fun i hi _ => (below1 w o).block i hi, fun i hi h => (by
  rcases h with h | h
  ·omega
  ·cases h), fun i h => (by
  rcases h with h | h
  ·rw [h]; simp
  ·cases h)⟩
def PartAt (u : World) (t : Tm) (k : Nat) (g : Nat) (M : Nat → Prop) (w : World) : Prop := ∃ y, (t.nodesFrom [])[k]? = some y ∧ CurAt u g y.2 y.1 M w
set_option maxRecDepth 100000 in
set_option maxHeartbeats 2000000 in
theorem parts_in (n : Nat) (hn : 2 ≤ n) (u w0 : World) (hu0 : Below u.heap.size u w0) (t : Tm) (hv : t.Valid) (s : Value) (b1 : Nat) (hb : VarAt b1 t.kind t.num s w0) (hs : SlIn u 0 t.kids s) :
  SeqCells Fence.wide n Tryz.prog 124 #[.pointer (some ⟨b1, 0, none⟩)] t.size (fun g : Nat => #[.pointer (some ⟨g, 0, none⟩)]) (PartAt u t) w0 := by
 intro l J W hW hstep hY hJ0
 obtain ⟨a, c, rfl⟩ := hs.form
 obtain ⟨z, d0, d1, d2, df⟩ := (hb.below hW).facts
 have hlenN := t.nodes_len []
 have hrun := t.nodes_run []
 have hok := hv.nodes
 have hcur := CurAt.new u W t _ (bAfter hu0 hW) hs
 have hst0 := Step.new (w := W) (.cells #[.int .i64 t.kind, .int .i64 t.num, .slice a t.kids.length c, .slice none 0 0] 81)
 have hJ1 := hstep 0 _ _ _ _ hJ0 hst0
 obtain ⟨M0, hM0⟩ : ∃ M0 : Nat → Prop, M0 = (fun i => i = W.heap.size ∨ (Value.slice none 0 0).ownBlock = some i) := ⟨_, rfl⟩
 rw [← hM0] at hcur hJ1
 have HCUR := tuck hcur
 have HJ1 := tuck hJ1
 clear hb hs hcur hst0 hJ1 hJ0 hM0
 refine callsIn_of_wp Tryz.func124 rfl trivial ?_ rfl
 simp only [Tryz.ntmps124, List.size_toArray, List.length_cons, List.length_nil, Nat.reduceAdd, Nat.reduceSub, Array.replicate_succ, Array.replicate_zero, List.push_toArray, List.append_toArray, List.nil_append, List.cons_append]
 gi_wp2_with fail
 generalize W.alloc (.cells #[.int .i64 t.kind, .int .i64 t.num, .slice a t.kids.length c, .slice none 0 0] 81) = W2 at *
 generalize W.heap.size = g at *
 have hpos := t.size_pos
 refine wpIn_loop_rounds t.size (rounds_of (R := fun m a' w' => ∃ (k : Nat) (M : Nat → Prop) (x7 x8 x9 x10 x11 x12 x13 : Value), k + m = t.size ∧ 1 ≤ m ∧ J k M w' ∧ PartAt u t k g M w' ∧
   a' = { tmps := #[.func (.yield l) #[] #[], .pointer (some ⟨b1, 0, none⟩), undef, .pointer (some ⟨g, 0, none⟩), .agg #[.int .i64 t.kind, .int .i64 t.num, .slice a t.kids.length c], .agg #[.int .i64 t.kind, .int .i64 t.num, .slice a t.kids.length c, .slice none 0 0], .pointer (some ⟨g, 0, none⟩), x7, x8, x9, x10, x11, x12, x13], defers := [] }) ?zero ?step t.size _ _ ?start)
 case zero =>
  rintro a' w' ⟨k, M, _, _, _, _, _, _, _, -, h, -⟩
  omega
 case start =>
  obtain ⟨L, hL⟩ := nodesFrom_head t []
  exact ⟨0, M0, _, _, _, _, _, _, _, by omega, hpos, HJ1.out, ⟨([], t), by rw [hL]; rfl, HCUR.out⟩, rfl⟩
 case step =>
  rintro m a' wr ⟨k, M, x7, x8, x9, x10, x11, x12, x13, hkm, -, hJk, ⟨y, hyk, hC⟩, rfl⟩
  have hk : k < (t.nodesFrom []).length := by omega
  have hyg : (t.nodesFrom [])[k] = y := by
   rw [List.getElem?_eq_getElem hk] at hyk
   simpa using hyk
  obtain ⟨fn, tmps, assign, body, hy, hR⟩ := hY k M g wr (by omega) hJk ⟨y, hyk, hC⟩
  have hyo := hok y (by rw [← hyg]; exact List.getElem_mem hk)
  have hnx : nextAt y = (t.nodesFrom [])[k + 1]? := by
   by_cases h1 : k + 1 < (t.nodesFrom []).length
   ·rw [← hyg, hrun.get k h1, List.getElem?_eq_getElem h1]
   ·rw [← hyg, hrun.last k hk (by omega), List.getElem?_eq_none (by omega)]
    rfl
  clear hC
  gi_wp2
  refine ⟨fun _ => by omega, hR.mono ?_⟩
  rintro e W3 ⟨rfl, hJ3, y', hy', hC3⟩
  obtain rfl : y = y' := by
   rw [hyk] at hy'
   simpa using hy'
  have HN := tuck (cur_next_any hyo.1 hyo.2.1 hyo.2.2.1 (by have := hyo.short hv; omega) hC3)
  have HJ3 := tuck hJ3
  clear hy hR hJ3 hC3 hJk
  gi_wp2_with fail
  refine ⟨trivial, ?_⟩
  refine ⟨fun _ => by omega, (callsIn_wide.2 HN.out).mono ?_⟩
  intro e W4 hnext
  rw [show (y.1, y.2) = y from rfl, hnx] at hnext
  by_cases h1 : k + 1 < (t.nodesFrom []).length
  ·rw [List.getElem?_eq_getElem h1] at hnext
   obtain ⟨rfl, M4, hst4, hC4⟩ := hnext
   have HJ4 := tuck (hstep _ _ _ _ _ HJ3.out hst4)
   have HC4 := tuck hC4
   clear hst4 hC4 HN HJ3
   gi_wp2_with fail
   exact ⟨k + 1, M4, _, _, _, _, _, _, _, by omega, by omega, HJ4.out, ⟨_, List.getElem?_eq_getElem h1, HC4.out⟩, rfl⟩
  ·rw [List.getElem?_eq_none (by omega)] at hnext
   obtain ⟨rfl, M4, hst4, x4, hC4⟩ := hnext
   have HJ4 := tuck (hstep _ _ _ _ _ HJ3.out hst4)
   have hkN : k + 1 = t.size := by omega
   rw [hkN] at HJ4
   clear hst4 hC4 HN HJ3
   gi_wp2_with fail
   go_end0
   exact ⟨⟨_, rfl⟩, M4, HJ4.out⟩
end Go.Proofs.YtpddjebdncaceaaGreat
