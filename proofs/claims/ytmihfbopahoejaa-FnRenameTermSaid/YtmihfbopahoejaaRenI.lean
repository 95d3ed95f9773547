/-
  impl.RenameTerm.
-/
import Derived.Test.YtmihfbopahoejaaRen
import Derived.Test.YtmihfbopahoejaaTwo
import Derived.Test.YtmihfbopahoejaaLawT
import Derived.Test.YtmihfbopahoejaaSpecT
import Derived.Test.YtmihfbopahoejaaFree
namespace Go.Proofs.Ytmihfbopahoejaa
open Go.RowKit

theorem holdN {W w1 w' : World} {g gn : Nat} {k n : Int} {s sn : Value} (h : Below W.heap.size W w1 ∧ (g < w1.heap.size ∧ w1.cell? ⟨g, 0, none⟩ = some (.int .i64 k) ∧ w1.cell? ⟨g, 1, none⟩ = some (.int .i64 n) ∧ w1.cell? ⟨g, 2, none⟩ = some s) ∧ (gn < w1.heap.size ∧ w1.cell? ⟨gn, 0, none⟩ = some sn)) (hb : Below w1.heap.size w1 w') :
    Below W.heap.size W w' ∧ (g < w'.heap.size ∧ w'.cell? ⟨g, 0, none⟩ = some (.int .i64 k) ∧ w'.cell? ⟨g, 1, none⟩ = some (.int .i64 n) ∧ w'.cell? ⟨g, 2, none⟩ = some s) ∧ (gn < w'.heap.size ∧ w'.cell? ⟨gn, 0, none⟩ = some sn) :=
  ⟨bAfter h.1 hb, BoxAt.below h.2.1 hb, Nat.lt_of_lt_of_le h.2.2.1 hb.size, (hb.cell (p := ⟨gn, 0, none⟩) h.2.2.1).trans h.2.2.2⟩

theorem ren1_ok' {w W w0 : World} {M0 : Nat → Prop} {g gn : Nat} {N : Int → Int} {len : Nat} {nv : Value} (hN : ∀ i : Nat, i < len → 0 ≤ N i ∧ N i ≤ 20) (hb : Below w.heap.size w W) (hb0 : Below W.heap.size W w0) (hM0 : ∀ i, M0 i → W.heap.size ≤ i) (hgn : gn < W.heap.size) (hnc : W.cell? ⟨gn, 0, none⟩ = some nv) (hni : Ints w 0 N len nv) :
    UseRepl 200 len w0 M0 g 66 #[.pointer (some ⟨gn, 0, none⟩)] (renMay N) (renTo N) := by
  obtain ⟨na, ncap, nb, no, rfl, hnp, hcs⟩ := hni
  by_cases h0 : 0 < len
  · obtain ⟨rfl, _, hnb⟩ := hnp h0
    have hnbW := Nat.lt_of_lt_of_le hnb hb.size
    exact ren1_ok hN (Nat.lt_of_lt_of_le hgn hb0.size) (fun h => by have := hM0 _ h; omega) ((hb0.cell (p := ⟨gn, 0, none⟩) hgn).trans hnc) (Nat.lt_of_lt_of_le hnbW hb0.size) (fun h => by have := hM0 _ h; omega)
      (fun i hi => ((hb0.cell (p := ⟨nb, no + i, none⟩) hnbW).trans ((hb.cell (p := ⟨nb, no + i, none⟩) hnb).trans (hcs i hi))))
  · intro w1 s M i b d _ _ h1 _ h2
    exfalso
    omega

set_option maxRecDepth 100000 in
set_option maxHeartbeats 1600000 in
theorem renI_any (t : Tm) (N : Int → Int) (len : Nat) (w : World) (v nv : Value) (h : TmIn w 0 t v) (hni : Ints w 0 N len nv) : Calls Try.prog 29 #[v, nv] w (ReplPost w (RenameOk t len N) (t.rename N 0)) := by
  obtain ⟨s, rfl, hs⟩ := h
  obtain ⟨a, cap, rfl⟩ := hs.form
  obtain ⟨na, ncap, rfl⟩ := hni.form
  have HS := tuck hs
  have HNI := tuck hni
  have HV : Hid (∀ w', Below w.heap.size w w' → Calls Try.prog 44 #[.agg #[.int .i64 t.kind, .int .i64 t.num, .slice a t.kids.length cap]] w' (BoolPost w' (tr t.Valid))) := fun w' h => validI_any t w' _ ⟨_, rfl, hs.below h⟩
  have HM : Hid (∀ w', Below w.heap.size w w' → Calls Try.prog 26 #[.agg #[.int .i64 t.kind, .int .i64 t.num, .slice a t.kids.length cap]] w' (IntPost w' (maxFreeOf t))) := fun w' h => maxFreeI_any t w' _ ⟨_, rfl, hs.below h⟩
  have HNM : Hid (∀ w', Below w.heap.size w w' → Calls Try.prog 65 #[.slice na len ncap] w' fun e w2 => e = .returned (.bool (tr (NamesOk N len))) ∧ w' = w2) := fun w' h => names_any N len w' _ (hni.below h)
  have HN : Hid (¬ RenameOk t len N → ∀ w', Below w.heap.size w w' → ReplPost w (RenameOk t len N) (t.rename N 0) (.returned (.tuple #[.agg #[.int .i64 0, .int .i64 0, .slice none 0 0], .bool false])) w') := fun h w' hb => ReplPost.no h hb
  clear hs hni
  by_cases hv : t.Valid
  rotate_left
  · rw [tr_not hv] at HV
    replace HN := tuck (HN.out (fun h => hv h.1))
    clear hv
    generalize ReplPost w (RenameOk t len N) (t.rename N 0) = post at *
    go_enter Try.func29, Try.ntmps29
    go_wp2_with fail
    have HBW : Hid (Below w.heap.size w (((w.alloc (.cells #[.int .i64 t.kind, .int .i64 t.num, .slice a t.kids.length cap] 25)).alloc (.cells #[.slice na len ncap] 40)).alloc (.cells #[.int .i64 0, .int .i64 0, .slice none 0 0] 25))) := tuck (below3 _ _ _ _)
    have HX : Hid (BoxAt w.heap.size t.kind t.num (.slice a t.kids.length cap) (((w.alloc (.cells #[.int .i64 t.kind, .int .i64 t.num, .slice a t.kids.length cap] 25)).alloc (.cells #[.slice na len ncap] 40)).alloc (.cells #[.int .i64 0, .int .i64 0, .slice none 0 0] 25))) := tuck (((BoxAt.new w t.kind t.num (.slice a t.kids.length cap) 25).below (below1 _ (.cells #[.slice na len ncap] 40))).below (below1 _ (.cells #[.int .i64 0, .int .i64 0, .slice none 0 0] 25)))
    have HY : Hid (w.heap.size + 1 < (((w.alloc (.cells #[.int .i64 t.kind, .int .i64 t.num, .slice a t.kids.length cap] 25)).alloc (.cells #[.slice na len ncap] 40)).alloc (.cells #[.int .i64 0, .int .i64 0, .slice none 0 0] 25)).heap.size ∧ (((w.alloc (.cells #[.int .i64 t.kind, .int .i64 t.num, .slice a t.kids.length cap] 25)).alloc (.cells #[.slice na len ncap] 40)).alloc (.cells #[.int .i64 0, .int .i64 0, .slice none 0 0] 25)).cell? ⟨w.heap.size + 1, 0, none⟩ = some (.slice na len ncap)) := tuck ⟨by simp, by go_simp⟩
    have HV1 : Hid (VarAt (w.heap.size + 1 + 1) 0 0 (.slice none 0 0) (((w.alloc (.cells #[.int .i64 t.kind, .int .i64 t.num, .slice a t.kids.length cap] 25)).alloc (.cells #[.slice na len ncap] 40)).alloc (.cells #[.int .i64 0, .int .i64 0, .slice none 0 0] 25))) := tuck (var_new2 w (.cells #[.int .i64 t.kind, .int .i64 t.num, .slice a t.kids.length cap] 25) (.cells #[.slice na len ncap] 40) 0 0 (.slice none 0 0))
    generalize ((w.alloc (.cells #[.int .i64 t.kind, .int .i64 t.num, .slice a t.kids.length cap] 25)).alloc (.cells #[.slice na len ncap] 40)).alloc (.cells #[.int .i64 0, .int .i64 0, .slice none 0 0] 25) = W0 at *
    have HT12 : ∀ w' : World, (fun w' : World => Below W0.heap.size W0 w' ∧ (w.heap.size < w'.heap.size ∧ w'.cell? ⟨w.heap.size, 0, none⟩ = some (.int .i64 t.kind) ∧ w'.cell? ⟨w.heap.size, 1, none⟩ = some (.int .i64 t.num) ∧ w'.cell? ⟨w.heap.size, 2, none⟩ = some (.slice a t.kids.length cap)) ∧ (w.heap.size + 1 < w'.heap.size ∧ w'.cell? ⟨w.heap.size + 1, 0, none⟩ = some (.slice na len ncap))) w' → (fun w' : World => Below W0.heap.size W0 w' ∧ (w.heap.size < w'.heap.size ∧ w'.cell? ⟨w.heap.size, 0, none⟩ = some (.int .i64 t.kind) ∧ w'.cell? ⟨w.heap.size, 1, none⟩ = some (.int .i64 t.num) ∧ w'.cell? ⟨w.heap.size, 2, none⟩ = some (.slice a t.kids.length cap)) ∧ (w.heap.size + 1 < w'.heap.size ∧ w'.cell? ⟨w.heap.size + 1, 0, none⟩ = some (.slice na len ncap))) w' := fun w' h => h
    refine AnyTwo.begin (fun w' : World => Below W0.heap.size W0 w' ∧ (w.heap.size < w'.heap.size ∧ w'.cell? ⟨w.heap.size, 0, none⟩ = some (.int .i64 t.kind) ∧ w'.cell? ⟨w.heap.size, 1, none⟩ = some (.int .i64 t.num) ∧ w'.cell? ⟨w.heap.size, 2, none⟩ = some (.slice a t.kids.length cap)) ∧ (w.heap.size + 1 < w'.heap.size ∧ w'.cell? ⟨w.heap.size + 1, 0, none⟩ = some (.slice na len ncap))) (fun w' : World => Below W0.heap.size W0 w' ∧ (w.heap.size < w'.heap.size ∧ w'.cell? ⟨w.heap.size, 0, none⟩ = some (.int .i64 t.kind) ∧ w'.cell? ⟨w.heap.size, 1, none⟩ = some (.int .i64 t.num) ∧ w'.cell? ⟨w.heap.size, 2, none⟩ = some (.slice a t.kids.length cap)) ∧ (w.heap.size + 1 < w'.heap.size ∧ w'.cell? ⟨w.heap.size + 1, 0, none⟩ = some (.slice na len ncap))) 14 (by kernel_rfl) ?_
    have hS1 : (fun w' : World => Below W0.heap.size W0 w' ∧ (w.heap.size < w'.heap.size ∧ w'.cell? ⟨w.heap.size, 0, none⟩ = some (.int .i64 t.kind) ∧ w'.cell? ⟨w.heap.size, 1, none⟩ = some (.int .i64 t.num) ∧ w'.cell? ⟨w.heap.size, 2, none⟩ = some (.slice a t.kids.length cap)) ∧ (w.heap.size + 1 < w'.heap.size ∧ w'.cell? ⟨w.heap.size + 1, 0, none⟩ = some (.slice na len ncap))) W0.drew := ⟨(Below.refl _ _).drew, HX.out, HY.out⟩
    refine AnyTwo.takeAny HT12 (i := 0) (oi := { dst := some 6, op := _, type := _, pos := _, after := _, guard := _ }) (v := ?va0) rfl (by kernel_rfl) (by kernel_rfl) (by decide +kernel) (by rfl) (fun _ _ _ h => h) (Or.inl ⟨by rfl, ?ya0⟩) (ph_one (by kernel_rfl) hS1) ?ra0
    case ya0 => (intro w hSw; (try dsimp only at hSw); go_simp; try (with_reducible rfl))
    try simp only [Act.put, List.setIfInBounds_toArray, List.set_cons_zero, List.set_cons_succ]
    refine AnyTwo.step (i := 1) (o := { dst := some 7, op := _, type := _, pos := _, after := _, guard := _ }) (by kernel_rfl) rfl (fun K hK => ?_)
    go_simp
    refine (HV.out _ (bAfter HBW.out hS1.1)).mono ?_
    rintro e' w1 ⟨rfl, hb1⟩
    have hS1' : (fun w' : World => Below W0.heap.size W0 w' ∧ (w.heap.size < w'.heap.size ∧ w'.cell? ⟨w.heap.size, 0, none⟩ = some (.int .i64 t.kind) ∧ w'.cell? ⟨w.heap.size, 1, none⟩ = some (.int .i64 t.num) ∧ w'.cell? ⟨w.heap.size, 2, none⟩ = some (.slice a t.kids.length cap)) ∧ (w.heap.size + 1 < w'.heap.size ∧ w'.cell? ⟨w.heap.size + 1, 0, none⟩ = some (.slice na len ncap))) _ := holdN hS1 hb1
    refine hK.out _ _ (ph_one (by kernel_rfl) hS1') ?_
    clear hK K hS1
    have hS1 := hS1'
    clear hS1'
    try simp only [Act.put, List.setIfInBounds_toArray, List.set_cons_zero, List.set_cons_succ]
    refine AnyTwo.takeAny HT12 (i := 2) (oi := { dst := some 8, op := _, type := _, pos := _, after := _, guard := _ }) (v := ?va2) rfl (by kernel_rfl) (by kernel_rfl) (by decide +kernel) (by rfl) (fun _ _ _ h => h) (Or.inl ⟨by rfl, ?ya2⟩) (ph_one (by kernel_rfl) hS1) ?ra2
    case ya2 => (intro w hSw; (try dsimp only at hSw); go_simp; try (with_reducible rfl))
    try simp only [Act.put, List.setIfInBounds_toArray, List.set_cons_zero, List.set_cons_succ]
    refine AnyTwo.takeAny HT12 (i := 3) (oi := { dst := some 9, op := _, type := _, pos := _, after := _, guard := _ }) (v := ?va3) rfl (by kernel_rfl) (by kernel_rfl) (by decide +kernel) (by rfl) (fun _ _ _ h => h) (Or.inl ⟨by rfl, ?ya3⟩) (ph_one (by kernel_rfl) hS1) ?ra3
    case ya3 => (intro w hSw; (try dsimp only at hSw); go_simp; try (with_reducible rfl))
    try simp only [Act.put, List.setIfInBounds_toArray, List.set_cons_zero, List.set_cons_succ]
    refine AnyTwo.takeAny HT12 (i := 4) (oi := { dst := some 10, op := _, type := _, pos := _, after := _, guard := _ }) (v := undef) rfl (by kernel_rfl) (by kernel_rfl) (by decide +kernel) (by rfl) (fun _ _ _ h => h) (Or.inr ⟨by rfl, rfl⟩) (ph_one (by kernel_rfl) hS1) ?ra4
    try simp only [Act.put, List.setIfInBounds_toArray, List.set_cons_zero, List.set_cons_succ]
    refine AnyTwo.step (i := 5) (o := { dst := some 11, op := _, type := _, pos := _, after := _, guard := _ }) (by kernel_rfl) rfl (fun K hK => ?_)
    go_simp
    have hS1' : (fun w' : World => Below W0.heap.size W0 w' ∧ (w.heap.size < w'.heap.size ∧ w'.cell? ⟨w.heap.size, 0, none⟩ = some (.int .i64 t.kind) ∧ w'.cell? ⟨w.heap.size, 1, none⟩ = some (.int .i64 t.num) ∧ w'.cell? ⟨w.heap.size, 2, none⟩ = some (.slice a t.kids.length cap)) ∧ (w.heap.size + 1 < w'.heap.size ∧ w'.cell? ⟨w.heap.size + 1, 0, none⟩ = some (.slice na len ncap))) _ := hS1
    refine hK.out _ _ (ph_one (by kernel_rfl) hS1') ?_
    clear hK K hS1
    have hS1 := hS1'
    clear hS1'
    try simp only [Act.put, List.setIfInBounds_toArray, List.set_cons_zero, List.set_cons_succ]
    refine AnyTwo.takeAny HT12 (i := 6) (oi := { dst := some 12, op := _, type := _, pos := _, after := _, guard := _ }) (v := undef) rfl (by kernel_rfl) (by kernel_rfl) (by decide +kernel) (by rfl) (fun _ _ _ h => h) (Or.inr ⟨by rfl, rfl⟩) (ph_one (by kernel_rfl) hS1) ?ra6
    try simp only [Act.put, List.setIfInBounds_toArray, List.set_cons_zero, List.set_cons_succ]
    refine AnyTwo.takeAny HT12 (i := 7) (oi := { dst := some 13, op := _, type := _, pos := _, after := _, guard := _ }) (v := ?va7) rfl (by kernel_rfl) (by kernel_rfl) (by decide +kernel) (by rfl) (fun _ _ _ h => h) (Or.inl ⟨by rfl, ?ya7⟩) (ph_one (by kernel_rfl) hS1) ?ra7
    case ya7 => (intro w hSw; (try dsimp only at hSw); go_simp; try (with_reducible rfl))
    try simp only [Act.put, List.setIfInBounds_toArray, List.set_cons_zero, List.set_cons_succ]
    refine AnyTwo.takeAny HT12 (i := 8) (oi := { dst := some 14, op := _, type := _, pos := _, after := _, guard := _ }) (v := ?va8) rfl (by kernel_rfl) (by kernel_rfl) (by decide +kernel) (by rfl) (fun _ _ _ h => h) (Or.inl ⟨by rfl, ?ya8⟩) (ph_one (by kernel_rfl) hS1) ?ra8
    case ya8 => (intro w hSw; (try dsimp only at hSw); go_simp; try (with_reducible rfl))
    try simp only [Act.put, List.setIfInBounds_toArray, List.set_cons_zero, List.set_cons_succ]
    refine AnyTwo.takeAny HT12 (i := 9) (oi := { dst := some 15, op := _, type := _, pos := _, after := _, guard := _ }) (v := undef) rfl (by kernel_rfl) (by kernel_rfl) (by decide +kernel) (by rfl) (fun _ _ _ h => h) (Or.inr ⟨by rfl, rfl⟩) (ph_one (by kernel_rfl) hS1) ?ra9
    try simp only [Act.put, List.setIfInBounds_toArray, List.set_cons_zero, List.set_cons_succ]
    refine AnyTwo.takeAny HT12 (i := 10) (oi := { dst := some 16, op := _, type := _, pos := _, after := _, guard := _ }) (v := undef) rfl (by kernel_rfl) (by kernel_rfl) (by decide +kernel) (by rfl) (fun _ _ _ h => h) (Or.inr ⟨by rfl, rfl⟩) (ph_one (by kernel_rfl) hS1) ?ra10
    try simp only [Act.put, List.setIfInBounds_toArray, List.set_cons_zero, List.set_cons_succ]
    refine AnyTwo.takeAny HT12 (i := 11) (oi := { dst := some 17, op := _, type := _, pos := _, after := _, guard := _ }) (v := undef) rfl (by kernel_rfl) (by kernel_rfl) (by decide +kernel) (by rfl) (fun _ _ _ h => h) (Or.inr ⟨by rfl, rfl⟩) (ph_one (by kernel_rfl) hS1) ?ra11
    try simp only [Act.put, List.setIfInBounds_toArray, List.set_cons_zero, List.set_cons_succ]
    refine AnyTwo.step (i := 12) (o := { dst := some 18, op := _, type := _, pos := _, after := _, guard := _ }) (by kernel_rfl) rfl (fun K hK => ?_)
    go_simp
    have hS1' : (fun w' : World => Below W0.heap.size W0 w' ∧ (w.heap.size < w'.heap.size ∧ w'.cell? ⟨w.heap.size, 0, none⟩ = some (.int .i64 t.kind) ∧ w'.cell? ⟨w.heap.size, 1, none⟩ = some (.int .i64 t.num) ∧ w'.cell? ⟨w.heap.size, 2, none⟩ = some (.slice a t.kids.length cap)) ∧ (w.heap.size + 1 < w'.heap.size ∧ w'.cell? ⟨w.heap.size + 1, 0, none⟩ = some (.slice na len ncap))) _ := hS1
    refine hK.out _ _ (ph_one (by kernel_rfl) hS1') ?_
    clear hK K hS1
    have hS1 := hS1'
    clear hS1'
    try simp only [Act.put, List.setIfInBounds_toArray, List.set_cons_zero, List.set_cons_succ]
    refine AnyTwo.takeAny HT12 (i := 13) (oi := { dst := some 19, op := _, type := _, pos := _, after := _, guard := _ }) (v := undef) rfl (by kernel_rfl) (by kernel_rfl) (by decide +kernel) (by rfl) (fun _ _ _ h => h) (Or.inr ⟨by rfl, rfl⟩) (ph_one (by kernel_rfl) hS1) ?ra13
    try simp only [Act.put, List.setIfInBounds_toArray, List.set_cons_zero, List.set_cons_succ]
    refine AnyTwo.step (i := 14) (o := { dst := some 20, op := _, type := _, pos := _, after := _, guard := _ }) (by kernel_rfl) rfl (fun K hK => ?_)
    go_simp
    refine hK.out _ _ (ph_end (by kernel_rfl) hS1) ?_
    clear hK K
    try simp only [Act.put, List.setIfInBounds_toArray, List.set_cons_zero, List.set_cons_succ]
    refine AnyTwo.done (by kernel_rfl) ?_ _
    have hbe := hS1.1
    replace HBW := tuck (bAfter HBW.out hbe)
    replace HV1 := tuck (HV1.out.below hbe)
    obtain ⟨zv, v0, v1, v2, vf⟩ := HV1.out.facts
    clear hS1 hbe HT12
    go_wp2_with fail
    refine bodyPost_ret (v := .tuple #[.agg #[.int .i64 0, .int .i64 0, .slice none 0 0], .bool false]) (by simp [results, Try.results29, go_sem, *]) rfl (HN.out _ ?_)
    exact bSet3 HBW.out (by omega) _ _ _ _ _ _
  rw [tr_of hv] at HV
  rw [show maxFreeOf t = t.most 0 from if_pos hv] at HM
  by_cases hn : NamesOk N len
  rotate_left
  · rw [tr_not hn] at HNM
    replace HN := tuck (HN.out (fun h => hn ⟨h.2.1, h.2.2.1⟩))
    clear hv hn
    generalize ReplPost w (RenameOk t len N) (t.rename N 0) = post at *
    go_enter Try.func29, Try.ntmps29
    go_wp2_with fail
    have HBW : Hid (Below w.heap.size w (((w.alloc (.cells #[.int .i64 t.kind, .int .i64 t.num, .slice a t.kids.length cap] 25)).alloc (.cells #[.slice na len ncap] 40)).alloc (.cells #[.int .i64 0, .int .i64 0, .slice none 0 0] 25))) := tuck (below3 _ _ _ _)
    have HX : Hid (BoxAt w.heap.size t.kind t.num (.slice a t.kids.length cap) (((w.alloc (.cells #[.int .i64 t.kind, .int .i64 t.num, .slice a t.kids.length cap] 25)).alloc (.cells #[.slice na len ncap] 40)).alloc (.cells #[.int .i64 0, .int .i64 0, .slice none 0 0] 25))) := tuck (((BoxAt.new w t.kind t.num (.slice a t.kids.length cap) 25).below (below1 _ (.cells #[.slice na len ncap] 40))).below (below1 _ (.cells #[.int .i64 0, .int .i64 0, .slice none 0 0] 25)))
    have HY : Hid (w.heap.size + 1 < (((w.alloc (.cells #[.int .i64 t.kind, .int .i64 t.num, .slice a t.kids.length cap] 25)).alloc (.cells #[.slice na len ncap] 40)).alloc (.cells #[.int .i64 0, .int .i64 0, .slice none 0 0] 25)).heap.size ∧ (((w.alloc (.cells #[.int .i64 t.kind, .int .i64 t.num, .slice a t.kids.length cap] 25)).alloc (.cells #[.slice na len ncap] 40)).alloc (.cells #[.int .i64 0, .int .i64 0, .slice none 0 0] 25)).cell? ⟨w.heap.size + 1, 0, none⟩ = some (.slice na len ncap)) := tuck ⟨by simp, by go_simp⟩
    have HV1 : Hid (VarAt (w.heap.size + 1 + 1) 0 0 (.slice none 0 0) (((w.alloc (.cells #[.int .i64 t.kind, .int .i64 t.num, .slice a t.kids.length cap] 25)).alloc (.cells #[.slice na len ncap] 40)).alloc (.cells #[.int .i64 0, .int .i64 0, .slice none 0 0] 25))) := tuck (var_new2 w (.cells #[.int .i64 t.kind, .int .i64 t.num, .slice a t.kids.length cap] 25) (.cells #[.slice na len ncap] 40) 0 0 (.slice none 0 0))
    generalize ((w.alloc (.cells #[.int .i64 t.kind, .int .i64 t.num, .slice a t.kids.length cap] 25)).alloc (.cells #[.slice na len ncap] 40)).alloc (.cells #[.int .i64 0, .int .i64 0, .slice none 0 0] 25) = W0 at *
    have HT12 : ∀ w' : World, (fun w' : World => Below W0.heap.size W0 w' ∧ (w.heap.size < w'.heap.size ∧ w'.cell? ⟨w.heap.size, 0, none⟩ = some (.int .i64 t.kind) ∧ w'.cell? ⟨w.heap.size, 1, none⟩ = some (.int .i64 t.num) ∧ w'.cell? ⟨w.heap.size, 2, none⟩ = some (.slice a t.kids.length cap)) ∧ (w.heap.size + 1 < w'.heap.size ∧ w'.cell? ⟨w.heap.size + 1, 0, none⟩ = some (.slice na len ncap))) w' → (fun w' : World => Below W0.heap.size W0 w' ∧ (w.heap.size < w'.heap.size ∧ w'.cell? ⟨w.heap.size, 0, none⟩ = some (.int .i64 t.kind) ∧ w'.cell? ⟨w.heap.size, 1, none⟩ = some (.int .i64 t.num) ∧ w'.cell? ⟨w.heap.size, 2, none⟩ = some (.slice a t.kids.length cap)) ∧ (w.heap.size + 1 < w'.heap.size ∧ w'.cell? ⟨w.heap.size + 1, 0, none⟩ = some (.slice na len ncap))) w' := fun w' h => h
    refine AnyTwo.begin (fun w' : World => Below W0.heap.size W0 w' ∧ (w.heap.size < w'.heap.size ∧ w'.cell? ⟨w.heap.size, 0, none⟩ = some (.int .i64 t.kind) ∧ w'.cell? ⟨w.heap.size, 1, none⟩ = some (.int .i64 t.num) ∧ w'.cell? ⟨w.heap.size, 2, none⟩ = some (.slice a t.kids.length cap)) ∧ (w.heap.size + 1 < w'.heap.size ∧ w'.cell? ⟨w.heap.size + 1, 0, none⟩ = some (.slice na len ncap))) (fun w' : World => Below W0.heap.size W0 w' ∧ (w.heap.size < w'.heap.size ∧ w'.cell? ⟨w.heap.size, 0, none⟩ = some (.int .i64 t.kind) ∧ w'.cell? ⟨w.heap.size, 1, none⟩ = some (.int .i64 t.num) ∧ w'.cell? ⟨w.heap.size, 2, none⟩ = some (.slice a t.kids.length cap)) ∧ (w.heap.size + 1 < w'.heap.size ∧ w'.cell? ⟨w.heap.size + 1, 0, none⟩ = some (.slice na len ncap))) 14 (by kernel_rfl) ?_
    have hS1 : (fun w' : World => Below W0.heap.size W0 w' ∧ (w.heap.size < w'.heap.size ∧ w'.cell? ⟨w.heap.size, 0, none⟩ = some (.int .i64 t.kind) ∧ w'.cell? ⟨w.heap.size, 1, none⟩ = some (.int .i64 t.num) ∧ w'.cell? ⟨w.heap.size, 2, none⟩ = some (.slice a t.kids.length cap)) ∧ (w.heap.size + 1 < w'.heap.size ∧ w'.cell? ⟨w.heap.size + 1, 0, none⟩ = some (.slice na len ncap))) W0.drew := ⟨(Below.refl _ _).drew, HX.out, HY.out⟩
    refine AnyTwo.takeAny HT12 (i := 0) (oi := { dst := some 6, op := _, type := _, pos := _, after := _, guard := _ }) (v := ?vb0) rfl (by kernel_rfl) (by kernel_rfl) (by decide +kernel) (by rfl) (fun _ _ _ h => h) (Or.inl ⟨by rfl, ?yb0⟩) (ph_one (by kernel_rfl) hS1) ?rb0
    case yb0 => (intro w hSw; (try dsimp only at hSw); go_simp; try (with_reducible rfl))
    try simp only [Act.put, List.setIfInBounds_toArray, List.set_cons_zero, List.set_cons_succ]
    refine AnyTwo.step (i := 1) (o := { dst := some 7, op := _, type := _, pos := _, after := _, guard := _ }) (by kernel_rfl) rfl (fun K hK => ?_)
    go_simp
    refine (HV.out _ (bAfter HBW.out hS1.1)).mono ?_
    rintro e' w1 ⟨rfl, hb1⟩
    have hS1' : (fun w' : World => Below W0.heap.size W0 w' ∧ (w.heap.size < w'.heap.size ∧ w'.cell? ⟨w.heap.size, 0, none⟩ = some (.int .i64 t.kind) ∧ w'.cell? ⟨w.heap.size, 1, none⟩ = some (.int .i64 t.num) ∧ w'.cell? ⟨w.heap.size, 2, none⟩ = some (.slice a t.kids.length cap)) ∧ (w.heap.size + 1 < w'.heap.size ∧ w'.cell? ⟨w.heap.size + 1, 0, none⟩ = some (.slice na len ncap))) _ := holdN hS1 hb1
    refine hK.out _ _ (ph_one (by kernel_rfl) hS1') ?_
    clear hK K hS1
    have hS1 := hS1'
    clear hS1'
    try simp only [Act.put, List.setIfInBounds_toArray, List.set_cons_zero, List.set_cons_succ]
    refine AnyTwo.takeAny HT12 (i := 2) (oi := { dst := some 8, op := _, type := _, pos := _, after := _, guard := _ }) (v := ?vb2) rfl (by kernel_rfl) (by kernel_rfl) (by decide +kernel) (by rfl) (fun _ _ _ h => h) (Or.inl ⟨by rfl, ?yb2⟩) (ph_one (by kernel_rfl) hS1) ?rb2
    case yb2 => (intro w hSw; (try dsimp only at hSw); go_simp; try (with_reducible rfl))
    try simp only [Act.put, List.setIfInBounds_toArray, List.set_cons_zero, List.set_cons_succ]
    refine AnyTwo.takeAny HT12 (i := 3) (oi := { dst := some 9, op := _, type := _, pos := _, after := _, guard := _ }) (v := ?vb3) rfl (by kernel_rfl) (by kernel_rfl) (by decide +kernel) (by rfl) (fun _ _ _ h => h) (Or.inl ⟨by rfl, ?yb3⟩) (ph_one (by kernel_rfl) hS1) ?rb3
    case yb3 => (intro w hSw; (try dsimp only at hSw); go_simp; try (with_reducible rfl))
    try simp only [Act.put, List.setIfInBounds_toArray, List.set_cons_zero, List.set_cons_succ]
    refine AnyTwo.takeAny HT12 (i := 4) (oi := { dst := some 10, op := _, type := _, pos := _, after := _, guard := _ }) (v := ?vb4) rfl (by kernel_rfl) (by kernel_rfl) (by decide +kernel) (by rfl) (fun _ _ _ h => h) (Or.inl ⟨by rfl, ?yb4⟩) (ph_one (by kernel_rfl) hS1) ?rb4
    case yb4 => (intro w hSw; (try dsimp only at hSw); go_simp; try (with_reducible rfl))
    try simp only [Act.put, List.setIfInBounds_toArray, List.set_cons_zero, List.set_cons_succ]
    refine AnyTwo.step (i := 5) (o := { dst := some 11, op := _, type := _, pos := _, after := _, guard := _ }) (by kernel_rfl) rfl (fun K hK => ?_)
    go_simp
    refine (HNM.out _ (bAfter HBW.out hS1.1)).mono ?_
    rintro e' w' ⟨rfl, rfl⟩
    have hS1' : (fun w' : World => Below W0.heap.size W0 w' ∧ (w.heap.size < w'.heap.size ∧ w'.cell? ⟨w.heap.size, 0, none⟩ = some (.int .i64 t.kind) ∧ w'.cell? ⟨w.heap.size, 1, none⟩ = some (.int .i64 t.num) ∧ w'.cell? ⟨w.heap.size, 2, none⟩ = some (.slice a t.kids.length cap)) ∧ (w.heap.size + 1 < w'.heap.size ∧ w'.cell? ⟨w.heap.size + 1, 0, none⟩ = some (.slice na len ncap))) _ := hS1
    refine hK.out _ _ (ph_one (by kernel_rfl) hS1') ?_
    clear hK K hS1
    have hS1 := hS1'
    clear hS1'
    try simp only [Act.put, List.setIfInBounds_toArray, List.set_cons_zero, List.set_cons_succ]
    refine AnyTwo.takeAny HT12 (i := 6) (oi := { dst := some 12, op := _, type := _, pos := _, after := _, guard := _ }) (v := ?vb6) rfl (by kernel_rfl) (by kernel_rfl) (by decide +kernel) (by rfl) (fun _ _ _ h => h) (Or.inl ⟨by rfl, ?yb6⟩) (ph_one (by kernel_rfl) hS1) ?rb6
    case yb6 => (intro w hSw; (try dsimp only at hSw); go_simp; try (with_reducible rfl))
    try simp only [Act.put, List.setIfInBounds_toArray, List.set_cons_zero, List.set_cons_succ]
    refine AnyTwo.takeAny HT12 (i := 7) (oi := { dst := some 13, op := _, type := _, pos := _, after := _, guard := _ }) (v := ?vb7) rfl (by kernel_rfl) (by kernel_rfl) (by decide +kernel) (by rfl) (fun _ _ _ h => h) (Or.inl ⟨by rfl, ?yb7⟩) (ph_one (by kernel_rfl) hS1) ?rb7
    case yb7 => (intro w hSw; (try dsimp only at hSw); go_simp; try (with_reducible rfl))
    try simp only [Act.put, List.setIfInBounds_toArray, List.set_cons_zero, List.set_cons_succ]
    refine AnyTwo.takeAny HT12 (i := 8) (oi := { dst := some 14, op := _, type := _, pos := _, after := _, guard := _ }) (v := ?vb8) rfl (by kernel_rfl) (by kernel_rfl) (by decide +kernel) (by rfl) (fun _ _ _ h => h) (Or.inl ⟨by rfl, ?yb8⟩) (ph_one (by kernel_rfl) hS1) ?rb8
    case yb8 => (intro w hSw; (try dsimp only at hSw); go_simp; try (with_reducible rfl))
    try simp only [Act.put, List.setIfInBounds_toArray, List.set_cons_zero, List.set_cons_succ]
    refine AnyTwo.takeAny HT12 (i := 9) (oi := { dst := some 15, op := _, type := _, pos := _, after := _, guard := _ }) (v := undef) rfl (by kernel_rfl) (by kernel_rfl) (by decide +kernel) (by rfl) (fun _ _ _ h => h) (Or.inr ⟨by rfl, rfl⟩) (ph_one (by kernel_rfl) hS1) ?rb9
    try simp only [Act.put, List.setIfInBounds_toArray, List.set_cons_zero, List.set_cons_succ]
    refine AnyTwo.takeAny HT12 (i := 10) (oi := { dst := some 16, op := _, type := _, pos := _, after := _, guard := _ }) (v := undef) rfl (by kernel_rfl) (by kernel_rfl) (by decide +kernel) (by rfl) (fun _ _ _ h => h) (Or.inr ⟨by rfl, rfl⟩) (ph_one (by kernel_rfl) hS1) ?rb10
    try simp only [Act.put, List.setIfInBounds_toArray, List.set_cons_zero, List.set_cons_succ]
    refine AnyTwo.takeAny HT12 (i := 11) (oi := { dst := some 17, op := _, type := _, pos := _, after := _, guard := _ }) (v := undef) rfl (by kernel_rfl) (by kernel_rfl) (by decide +kernel) (by rfl) (fun _ _ _ h => h) (Or.inr ⟨by rfl, rfl⟩) (ph_one (by kernel_rfl) hS1) ?rb11
    try simp only [Act.put, List.setIfInBounds_toArray, List.set_cons_zero, List.set_cons_succ]
    refine AnyTwo.step (i := 12) (o := { dst := some 18, op := _, type := _, pos := _, after := _, guard := _ }) (by kernel_rfl) rfl (fun K hK => ?_)
    go_simp
    have hS1' : (fun w' : World => Below W0.heap.size W0 w' ∧ (w.heap.size < w'.heap.size ∧ w'.cell? ⟨w.heap.size, 0, none⟩ = some (.int .i64 t.kind) ∧ w'.cell? ⟨w.heap.size, 1, none⟩ = some (.int .i64 t.num) ∧ w'.cell? ⟨w.heap.size, 2, none⟩ = some (.slice a t.kids.length cap)) ∧ (w.heap.size + 1 < w'.heap.size ∧ w'.cell? ⟨w.heap.size + 1, 0, none⟩ = some (.slice na len ncap))) _ := hS1
    refine hK.out _ _ (ph_one (by kernel_rfl) hS1') ?_
    clear hK K hS1
    have hS1 := hS1'
    clear hS1'
    try simp only [Act.put, List.setIfInBounds_toArray, List.set_cons_zero, List.set_cons_succ]
    refine AnyTwo.takeAny HT12 (i := 13) (oi := { dst := some 19, op := _, type := _, pos := _, after := _, guard := _ }) (v := undef) rfl (by kernel_rfl) (by kernel_rfl) (by decide +kernel) (by rfl) (fun _ _ _ h => h) (Or.inr ⟨by rfl, rfl⟩) (ph_one (by kernel_rfl) hS1) ?rb13
    try simp only [Act.put, List.setIfInBounds_toArray, List.set_cons_zero, List.set_cons_succ]
    refine AnyTwo.step (i := 14) (o := { dst := some 20, op := _, type := _, pos := _, after := _, guard := _ }) (by kernel_rfl) rfl (fun K hK => ?_)
    go_simp
    refine hK.out _ _ (ph_end (by kernel_rfl) hS1) ?_
    clear hK K
    try simp only [Act.put, List.setIfInBounds_toArray, List.set_cons_zero, List.set_cons_succ]
    refine AnyTwo.done (by kernel_rfl) ?_ _
    have hbe := hS1.1
    replace HBW := tuck (bAfter HBW.out hbe)
    replace HV1 := tuck (HV1.out.below hbe)
    obtain ⟨zv, v0, v1, v2, vf⟩ := HV1.out.facts
    clear hS1 hbe HT12
    go_wp2_with fail
    refine bodyPost_ret (v := .tuple #[.agg #[.int .i64 0, .int .i64 0, .slice none 0 0], .bool false]) (by simp [results, Try.results29, go_sem, *]) rfl (HN.out _ ?_)
    exact bSet3 HBW.out (by omega) _ _ _ _ _ _
  rw [tr_of hn] at HNM
  by_cases hm : t.most 0 ≤ len
  rotate_left
  · have g1 : decide ((len : Int) < t.most 0) = true := by simp; omega
    replace HN := tuck (HN.out (fun h => hm h.2.2.2.1))
    clear hv hn hm
    generalize ReplPost w (RenameOk t len N) (t.rename N 0) = post at *
    generalize t.most 0 = mo at *
    go_enter Try.func29, Try.ntmps29
    go_wp2_with fail
    have HBW : Hid (Below w.heap.size w (((w.alloc (.cells #[.int .i64 t.kind, .int .i64 t.num, .slice a t.kids.length cap] 25)).alloc (.cells #[.slice na len ncap] 40)).alloc (.cells #[.int .i64 0, .int .i64 0, .slice none 0 0] 25))) := tuck (below3 _ _ _ _)
    have HX : Hid (BoxAt w.heap.size t.kind t.num (.slice a t.kids.length cap) (((w.alloc (.cells #[.int .i64 t.kind, .int .i64 t.num, .slice a t.kids.length cap] 25)).alloc (.cells #[.slice na len ncap] 40)).alloc (.cells #[.int .i64 0, .int .i64 0, .slice none 0 0] 25))) := tuck (((BoxAt.new w t.kind t.num (.slice a t.kids.length cap) 25).below (below1 _ (.cells #[.slice na len ncap] 40))).below (below1 _ (.cells #[.int .i64 0, .int .i64 0, .slice none 0 0] 25)))
    have HY : Hid (w.heap.size + 1 < (((w.alloc (.cells #[.int .i64 t.kind, .int .i64 t.num, .slice a t.kids.length cap] 25)).alloc (.cells #[.slice na len ncap] 40)).alloc (.cells #[.int .i64 0, .int .i64 0, .slice none 0 0] 25)).heap.size ∧ (((w.alloc (.cells #[.int .i64 t.kind, .int .i64 t.num, .slice a t.kids.length cap] 25)).alloc (.cells #[.slice na len ncap] 40)).alloc (.cells #[.int .i64 0, .int .i64 0, .slice none 0 0] 25)).cell? ⟨w.heap.size + 1, 0, none⟩ = some (.slice na len ncap)) := tuck ⟨by simp, by go_simp⟩
    have HV1 : Hid (VarAt (w.heap.size + 1 + 1) 0 0 (.slice none 0 0) (((w.alloc (.cells #[.int .i64 t.kind, .int .i64 t.num, .slice a t.kids.length cap] 25)).alloc (.cells #[.slice na len ncap] 40)).alloc (.cells #[.int .i64 0, .int .i64 0, .slice none 0 0] 25))) := tuck (var_new2 w (.cells #[.int .i64 t.kind, .int .i64 t.num, .slice a t.kids.length cap] 25) (.cells #[.slice na len ncap] 40) 0 0 (.slice none 0 0))
    generalize ((w.alloc (.cells #[.int .i64 t.kind, .int .i64 t.num, .slice a t.kids.length cap] 25)).alloc (.cells #[.slice na len ncap] 40)).alloc (.cells #[.int .i64 0, .int .i64 0, .slice none 0 0] 25) = W0 at *
    have HT12 : ∀ w' : World, (fun w' : World => Below W0.heap.size W0 w' ∧ (w.heap.size < w'.heap.size ∧ w'.cell? ⟨w.heap.size, 0, none⟩ = some (.int .i64 t.kind) ∧ w'.cell? ⟨w.heap.size, 1, none⟩ = some (.int .i64 t.num) ∧ w'.cell? ⟨w.heap.size, 2, none⟩ = some (.slice a t.kids.length cap)) ∧ (w.heap.size + 1 < w'.heap.size ∧ w'.cell? ⟨w.heap.size + 1, 0, none⟩ = some (.slice na len ncap))) w' → (fun w' : World => Below W0.heap.size W0 w' ∧ (w.heap.size < w'.heap.size ∧ w'.cell? ⟨w.heap.size, 0, none⟩ = some (.int .i64 t.kind) ∧ w'.cell? ⟨w.heap.size, 1, none⟩ = some (.int .i64 t.num) ∧ w'.cell? ⟨w.heap.size, 2, none⟩ = some (.slice a t.kids.length cap)) ∧ (w.heap.size + 1 < w'.heap.size ∧ w'.cell? ⟨w.heap.size + 1, 0, none⟩ = some (.slice na len ncap))) w' := fun w' h => h
    refine AnyTwo.begin (fun w' : World => Below W0.heap.size W0 w' ∧ (w.heap.size < w'.heap.size ∧ w'.cell? ⟨w.heap.size, 0, none⟩ = some (.int .i64 t.kind) ∧ w'.cell? ⟨w.heap.size, 1, none⟩ = some (.int .i64 t.num) ∧ w'.cell? ⟨w.heap.size, 2, none⟩ = some (.slice a t.kids.length cap)) ∧ (w.heap.size + 1 < w'.heap.size ∧ w'.cell? ⟨w.heap.size + 1, 0, none⟩ = some (.slice na len ncap))) (fun w' : World => Below W0.heap.size W0 w' ∧ (w.heap.size < w'.heap.size ∧ w'.cell? ⟨w.heap.size, 0, none⟩ = some (.int .i64 t.kind) ∧ w'.cell? ⟨w.heap.size, 1, none⟩ = some (.int .i64 t.num) ∧ w'.cell? ⟨w.heap.size, 2, none⟩ = some (.slice a t.kids.length cap)) ∧ (w.heap.size + 1 < w'.heap.size ∧ w'.cell? ⟨w.heap.size + 1, 0, none⟩ = some (.slice na len ncap))) 14 (by kernel_rfl) ?_
    have hS1 : (fun w' : World => Below W0.heap.size W0 w' ∧ (w.heap.size < w'.heap.size ∧ w'.cell? ⟨w.heap.size, 0, none⟩ = some (.int .i64 t.kind) ∧ w'.cell? ⟨w.heap.size, 1, none⟩ = some (.int .i64 t.num) ∧ w'.cell? ⟨w.heap.size, 2, none⟩ = some (.slice a t.kids.length cap)) ∧ (w.heap.size + 1 < w'.heap.size ∧ w'.cell? ⟨w.heap.size + 1, 0, none⟩ = some (.slice na len ncap))) W0.drew := ⟨(Below.refl _ _).drew, HX.out, HY.out⟩
    refine AnyTwo.takeAny HT12 (i := 0) (oi := { dst := some 6, op := _, type := _, pos := _, after := _, guard := _ }) (v := ?vc0) rfl (by kernel_rfl) (by kernel_rfl) (by decide +kernel) (by rfl) (fun _ _ _ h => h) (Or.inl ⟨by rfl, ?yc0⟩) (ph_one (by kernel_rfl) hS1) ?rc0
    case yc0 => (intro w hSw; (try dsimp only at hSw); go_simp; try (with_reducible rfl))
    try simp only [Act.put, List.setIfInBounds_toArray, List.set_cons_zero, List.set_cons_succ]
    refine AnyTwo.step (i := 1) (o := { dst := some 7, op := _, type := _, pos := _, after := _, guard := _ }) (by kernel_rfl) rfl (fun K hK => ?_)
    go_simp
    refine (HV.out _ (bAfter HBW.out hS1.1)).mono ?_
    rintro e' w1 ⟨rfl, hb1⟩
    have hS1' : (fun w' : World => Below W0.heap.size W0 w' ∧ (w.heap.size < w'.heap.size ∧ w'.cell? ⟨w.heap.size, 0, none⟩ = some (.int .i64 t.kind) ∧ w'.cell? ⟨w.heap.size, 1, none⟩ = some (.int .i64 t.num) ∧ w'.cell? ⟨w.heap.size, 2, none⟩ = some (.slice a t.kids.length cap)) ∧ (w.heap.size + 1 < w'.heap.size ∧ w'.cell? ⟨w.heap.size + 1, 0, none⟩ = some (.slice na len ncap))) _ := holdN hS1 hb1
    refine hK.out _ _ (ph_one (by kernel_rfl) hS1') ?_
    clear hK K hS1
    have hS1 := hS1'
    clear hS1'
    try simp only [Act.put, List.setIfInBounds_toArray, List.set_cons_zero, List.set_cons_succ]
    refine AnyTwo.takeAny HT12 (i := 2) (oi := { dst := some 8, op := _, type := _, pos := _, after := _, guard := _ }) (v := ?vc2) rfl (by kernel_rfl) (by kernel_rfl) (by decide +kernel) (by rfl) (fun _ _ _ h => h) (Or.inl ⟨by rfl, ?yc2⟩) (ph_one (by kernel_rfl) hS1) ?rc2
    case yc2 => (intro w hSw; (try dsimp only at hSw); go_simp; try (with_reducible rfl))
    try simp only [Act.put, List.setIfInBounds_toArray, List.set_cons_zero, List.set_cons_succ]
    refine AnyTwo.takeAny HT12 (i := 3) (oi := { dst := some 9, op := _, type := _, pos := _, after := _, guard := _ }) (v := ?vc3) rfl (by kernel_rfl) (by kernel_rfl) (by decide +kernel) (by rfl) (fun _ _ _ h => h) (Or.inl ⟨by rfl, ?yc3⟩) (ph_one (by kernel_rfl) hS1) ?rc3
    case yc3 => (intro w hSw; (try dsimp only at hSw); go_simp; try (with_reducible rfl))
    try simp only [Act.put, List.setIfInBounds_toArray, List.set_cons_zero, List.set_cons_succ]
    refine AnyTwo.takeAny HT12 (i := 4) (oi := { dst := some 10, op := _, type := _, pos := _, after := _, guard := _ }) (v := ?vc4) rfl (by kernel_rfl) (by kernel_rfl) (by decide +kernel) (by rfl) (fun _ _ _ h => h) (Or.inl ⟨by rfl, ?yc4⟩) (ph_one (by kernel_rfl) hS1) ?rc4
    case yc4 => (intro w hSw; (try dsimp only at hSw); go_simp; try (with_reducible rfl))
    try simp only [Act.put, List.setIfInBounds_toArray, List.set_cons_zero, List.set_cons_succ]
    refine AnyTwo.step (i := 5) (o := { dst := some 11, op := _, type := _, pos := _, after := _, guard := _ }) (by kernel_rfl) rfl (fun K hK => ?_)
    go_simp
    refine (HNM.out _ (bAfter HBW.out hS1.1)).mono ?_
    rintro e' w' ⟨rfl, rfl⟩
    have hS1' : (fun w' : World => Below W0.heap.size W0 w' ∧ (w.heap.size < w'.heap.size ∧ w'.cell? ⟨w.heap.size, 0, none⟩ = some (.int .i64 t.kind) ∧ w'.cell? ⟨w.heap.size, 1, none⟩ = some (.int .i64 t.num) ∧ w'.cell? ⟨w.heap.size, 2, none⟩ = some (.slice a t.kids.length cap)) ∧ (w.heap.size + 1 < w'.heap.size ∧ w'.cell? ⟨w.heap.size + 1, 0, none⟩ = some (.slice na len ncap))) _ := hS1
    refine hK.out _ _ (ph_one (by kernel_rfl) hS1') ?_
    clear hK K hS1
    have hS1 := hS1'
    clear hS1'
    try simp only [Act.put, List.setIfInBounds_toArray, List.set_cons_zero, List.set_cons_succ]
    refine AnyTwo.takeAny HT12 (i := 6) (oi := { dst := some 12, op := _, type := _, pos := _, after := _, guard := _ }) (v := ?vc6) rfl (by kernel_rfl) (by kernel_rfl) (by decide +kernel) (by rfl) (fun _ _ _ h => h) (Or.inl ⟨by rfl, ?yc6⟩) (ph_one (by kernel_rfl) hS1) ?rc6
    case yc6 => (intro w hSw; (try dsimp only at hSw); go_simp; try (with_reducible rfl))
    try simp only [Act.put, List.setIfInBounds_toArray, List.set_cons_zero, List.set_cons_succ]
    refine AnyTwo.takeAny HT12 (i := 7) (oi := { dst := some 13, op := _, type := _, pos := _, after := _, guard := _ }) (v := ?vc7) rfl (by kernel_rfl) (by kernel_rfl) (by decide +kernel) (by rfl) (fun _ _ _ h => h) (Or.inl ⟨by rfl, ?yc7⟩) (ph_one (by kernel_rfl) hS1) ?rc7
    case yc7 => (intro w hSw; (try dsimp only at hSw); go_simp; try (with_reducible rfl))
    try simp only [Act.put, List.setIfInBounds_toArray, List.set_cons_zero, List.set_cons_succ]
    refine AnyTwo.takeAny HT12 (i := 8) (oi := { dst := some 14, op := _, type := _, pos := _, after := _, guard := _ }) (v := ?vc8) rfl (by kernel_rfl) (by kernel_rfl) (by decide +kernel) (by rfl) (fun _ _ _ h => h) (Or.inl ⟨by rfl, ?yc8⟩) (ph_one (by kernel_rfl) hS1) ?rc8
    case yc8 => (intro w hSw; (try dsimp only at hSw); go_simp; try (with_reducible rfl))
    try simp only [Act.put, List.setIfInBounds_toArray, List.set_cons_zero, List.set_cons_succ]
    refine AnyTwo.takeAny HT12 (i := 9) (oi := { dst := some 15, op := _, type := _, pos := _, after := _, guard := _ }) (v := ?vc9) rfl (by kernel_rfl) (by kernel_rfl) (by decide +kernel) (by rfl) (fun _ _ _ h => h) (Or.inl ⟨by rfl, ?yc9⟩) (ph_one (by kernel_rfl) hS1) ?rc9
    case yc9 => (intro w hSw; (try dsimp only at hSw); go_simp; try (with_reducible rfl))
    try simp only [Act.put, List.setIfInBounds_toArray, List.set_cons_zero, List.set_cons_succ]
    refine AnyTwo.takeAny HT12 (i := 10) (oi := { dst := some 16, op := _, type := _, pos := _, after := _, guard := _ }) (v := ?vc10) rfl (by kernel_rfl) (by kernel_rfl) (by decide +kernel) (by rfl) (fun _ _ _ h => h) (Or.inl ⟨by rfl, ?yc10⟩) (ph_one (by kernel_rfl) hS1) ?rc10
    case yc10 => (intro w hSw; (try dsimp only at hSw); go_simp; try (with_reducible rfl))
    try simp only [Act.put, List.setIfInBounds_toArray, List.set_cons_zero, List.set_cons_succ]
    refine AnyTwo.takeAny HT12 (i := 11) (oi := { dst := some 17, op := _, type := _, pos := _, after := _, guard := _ }) (v := ?vc11) rfl (by kernel_rfl) (by kernel_rfl) (by decide +kernel) (by rfl) (fun _ _ _ h => h) (Or.inl ⟨by rfl, ?yc11⟩) (ph_one (by kernel_rfl) hS1) ?rc11
    case yc11 => (intro w hSw; (try dsimp only at hSw); go_simp; try (with_reducible rfl))
    try simp only [Act.put, List.setIfInBounds_toArray, List.set_cons_zero, List.set_cons_succ]
    refine AnyTwo.step (i := 12) (o := { dst := some 18, op := _, type := _, pos := _, after := _, guard := _ }) (by kernel_rfl) rfl (fun K hK => ?_)
    go_simp
    refine (HM.out _ (bAfter HBW.out hS1.1)).mono ?_
    rintro e' w2 ⟨rfl, hb2⟩
    have hS1' : (fun w' : World => Below W0.heap.size W0 w' ∧ (w.heap.size < w'.heap.size ∧ w'.cell? ⟨w.heap.size, 0, none⟩ = some (.int .i64 t.kind) ∧ w'.cell? ⟨w.heap.size, 1, none⟩ = some (.int .i64 t.num) ∧ w'.cell? ⟨w.heap.size, 2, none⟩ = some (.slice a t.kids.length cap)) ∧ (w.heap.size + 1 < w'.heap.size ∧ w'.cell? ⟨w.heap.size + 1, 0, none⟩ = some (.slice na len ncap))) _ := holdN hS1 hb2
    refine hK.out _ _ (ph_one (by kernel_rfl) hS1') ?_
    clear hK K hS1
    have hS1 := hS1'
    clear hS1'
    try simp only [Act.put, List.setIfInBounds_toArray, List.set_cons_zero, List.set_cons_succ]
    refine AnyTwo.takeAny HT12 (i := 13) (oi := { dst := some 19, op := _, type := _, pos := _, after := _, guard := _ }) (v := ?vc13) rfl (by kernel_rfl) (by kernel_rfl) (by decide +kernel) (by rfl) (fun _ _ _ h => h) (Or.inl ⟨by rfl, ?yc13⟩) (ph_one (by kernel_rfl) hS1) ?rc13
    case yc13 => (intro w hSw; (try dsimp only at hSw); go_simp; try (with_reducible rfl))
    try simp only [Act.put, List.setIfInBounds_toArray, List.set_cons_zero, List.set_cons_succ]
    refine AnyTwo.step (i := 14) (o := { dst := some 20, op := _, type := _, pos := _, after := _, guard := _ }) (by kernel_rfl) rfl (fun K hK => ?_)
    go_simp
    refine hK.out _ _ (ph_end (by kernel_rfl) hS1) ?_
    clear hK K
    try simp only [Act.put, List.setIfInBounds_toArray, List.set_cons_zero, List.set_cons_succ]
    refine AnyTwo.done (by kernel_rfl) ?_ _
    have hbe := hS1.1
    replace HBW := tuck (bAfter HBW.out hbe)
    replace HV1 := tuck (HV1.out.below hbe)
    obtain ⟨zv, v0, v1, v2, vf⟩ := HV1.out.facts
    clear hS1 hbe HT12
    go_wp2_with fail
    refine bodyPost_ret (v := .tuple #[.agg #[.int .i64 0, .int .i64 0, .slice none 0 0], .bool false]) (by simp [results, Try.results29, go_sem, *]) rfl (HN.out _ ?_)
    exact bSet3 HBW.out (by omega) _ _ _ _ _ _
  have g1 : decide ((len : Int) < t.most 0) = false := by simp; omega
  have HR : Hid (∀ (W : World), Below w.heap.size w W → w.heap.size + 1 < W.heap.size → W.cell? ⟨w.heap.size + 1, 0, none⟩ = some (.slice na len ncap) →
      Calls Try.prog 46 #[.agg #[.int .i64 t.kind, .int .i64 t.num, .slice a t.kids.length cap], .func (.func 66) #[] #[.pointer (some ⟨w.heap.size + 1, 0, none⟩)]] W (ReplPost W (RenameOk t len N) (t.rename N 0))) := fun W hb hgn hnc =>
    replaceFree_any (L := len) t W w _ (fun _ _ => by kernel_rfl) hb (fun w0 M0 g hb0 hM0 => ren1_ok' hn.2 hb hb0 hM0 hgn hnc HNI.out) hv hm ⟨_, rfl, HS.out⟩
      ((Tm.trav_copy _ _ t 0 1 [] hv.1 (by simp)).symm.trans (emit_rename hv hn.1 hn.2 hm))
  have HP : Hid (∀ (w' : World) (U : Tm) (s : Value) (F : List Nat), U = orZero (RenameOk t len N) (t.rename N 0) → Below w.heap.size w w' → SlOwn w' U.kids s F → F.Nodup → (∀ g ∈ F, w.heap.size ≤ g ∧ g < w'.heap.size) → ReplPost w (RenameOk t len N) (t.rename N 0) (.returned (.tuple #[.agg #[.int .i64 U.kind, .int .i64 U.num, s], .bool (tr (RenameOk t len N))])) w') := fun w' U s F a1 a2 a3 a4 a5 => ReplPost.close a1 a2 a3 a4 a5
  generalize t.rename N 0 = T at *
  generalize RenameOk t len N = Q at *
  generalize hpost : ReplPost w Q T = post at *
  clear hv hn hm hpost
  generalize t.most 0 = mo at *
  go_enter Try.func29, Try.ntmps29
  go_wp2_with fail
  have HBW : Hid (Below w.heap.size w (((w.alloc (.cells #[.int .i64 t.kind, .int .i64 t.num, .slice a t.kids.length cap] 25)).alloc (.cells #[.slice na len ncap] 40)).alloc (.cells #[.int .i64 0, .int .i64 0, .slice none 0 0] 25))) := tuck (below3 _ _ _ _)
  have HX : Hid (BoxAt w.heap.size t.kind t.num (.slice a t.kids.length cap) (((w.alloc (.cells #[.int .i64 t.kind, .int .i64 t.num, .slice a t.kids.length cap] 25)).alloc (.cells #[.slice na len ncap] 40)).alloc (.cells #[.int .i64 0, .int .i64 0, .slice none 0 0] 25))) := tuck (((BoxAt.new w t.kind t.num (.slice a t.kids.length cap) 25).below (below1 _ (.cells #[.slice na len ncap] 40))).below (below1 _ (.cells #[.int .i64 0, .int .i64 0, .slice none 0 0] 25)))
  have HY : Hid (w.heap.size + 1 < (((w.alloc (.cells #[.int .i64 t.kind, .int .i64 t.num, .slice a t.kids.length cap] 25)).alloc (.cells #[.slice na len ncap] 40)).alloc (.cells #[.int .i64 0, .int .i64 0, .slice none 0 0] 25)).heap.size ∧ (((w.alloc (.cells #[.int .i64 t.kind, .int .i64 t.num, .slice a t.kids.length cap] 25)).alloc (.cells #[.slice na len ncap] 40)).alloc (.cells #[.int .i64 0, .int .i64 0, .slice none 0 0] 25)).cell? ⟨w.heap.size + 1, 0, none⟩ = some (.slice na len ncap)) := tuck ⟨by simp, by go_simp⟩
  have HV1 : Hid (VarAt (w.heap.size + 1 + 1) 0 0 (.slice none 0 0) (((w.alloc (.cells #[.int .i64 t.kind, .int .i64 t.num, .slice a t.kids.length cap] 25)).alloc (.cells #[.slice na len ncap] 40)).alloc (.cells #[.int .i64 0, .int .i64 0, .slice none 0 0] 25))) := tuck (var_new2 w (.cells #[.int .i64 t.kind, .int .i64 t.num, .slice a t.kids.length cap] 25) (.cells #[.slice na len ncap] 40) 0 0 (.slice none 0 0))
  generalize ((w.alloc (.cells #[.int .i64 t.kind, .int .i64 t.num, .slice a t.kids.length cap] 25)).alloc (.cells #[.slice na len ncap] 40)).alloc (.cells #[.int .i64 0, .int .i64 0, .slice none 0 0] 25) = W0 at *
  have HT12 : ∀ w' : World, (fun w' : World => Below W0.heap.size W0 w' ∧ (w.heap.size < w'.heap.size ∧ w'.cell? ⟨w.heap.size, 0, none⟩ = some (.int .i64 t.kind) ∧ w'.cell? ⟨w.heap.size, 1, none⟩ = some (.int .i64 t.num) ∧ w'.cell? ⟨w.heap.size, 2, none⟩ = some (.slice a t.kids.length cap)) ∧ (w.heap.size + 1 < w'.heap.size ∧ w'.cell? ⟨w.heap.size + 1, 0, none⟩ = some (.slice na len ncap))) w' → (fun w' : World => Below W0.heap.size W0 w' ∧ (w.heap.size < w'.heap.size ∧ w'.cell? ⟨w.heap.size, 0, none⟩ = some (.int .i64 t.kind) ∧ w'.cell? ⟨w.heap.size, 1, none⟩ = some (.int .i64 t.num) ∧ w'.cell? ⟨w.heap.size, 2, none⟩ = some (.slice a t.kids.length cap)) ∧ (w.heap.size + 1 < w'.heap.size ∧ w'.cell? ⟨w.heap.size + 1, 0, none⟩ = some (.slice na len ncap))) w' := fun w' h => h
  refine AnyTwo.begin (fun w' : World => Below W0.heap.size W0 w' ∧ (w.heap.size < w'.heap.size ∧ w'.cell? ⟨w.heap.size, 0, none⟩ = some (.int .i64 t.kind) ∧ w'.cell? ⟨w.heap.size, 1, none⟩ = some (.int .i64 t.num) ∧ w'.cell? ⟨w.heap.size, 2, none⟩ = some (.slice a t.kids.length cap)) ∧ (w.heap.size + 1 < w'.heap.size ∧ w'.cell? ⟨w.heap.size + 1, 0, none⟩ = some (.slice na len ncap))) (fun w' : World => Below W0.heap.size W0 w' ∧ (w.heap.size < w'.heap.size ∧ w'.cell? ⟨w.heap.size, 0, none⟩ = some (.int .i64 t.kind) ∧ w'.cell? ⟨w.heap.size, 1, none⟩ = some (.int .i64 t.num) ∧ w'.cell? ⟨w.heap.size, 2, none⟩ = some (.slice a t.kids.length cap)) ∧ (w.heap.size + 1 < w'.heap.size ∧ w'.cell? ⟨w.heap.size + 1, 0, none⟩ = some (.slice na len ncap))) 14 (by kernel_rfl) ?_
  have hS1 : (fun w' : World => Below W0.heap.size W0 w' ∧ (w.heap.size < w'.heap.size ∧ w'.cell? ⟨w.heap.size, 0, none⟩ = some (.int .i64 t.kind) ∧ w'.cell? ⟨w.heap.size, 1, none⟩ = some (.int .i64 t.num) ∧ w'.cell? ⟨w.heap.size, 2, none⟩ = some (.slice a t.kids.length cap)) ∧ (w.heap.size + 1 < w'.heap.size ∧ w'.cell? ⟨w.heap.size + 1, 0, none⟩ = some (.slice na len ncap))) W0.drew := ⟨(Below.refl _ _).drew, HX.out, HY.out⟩
  refine AnyTwo.takeAny HT12 (i := 0) (oi := { dst := some 6, op := _, type := _, pos := _, after := _, guard := _ }) (v := ?vd0) rfl (by kernel_rfl) (by kernel_rfl) (by decide +kernel) (by rfl) (fun _ _ _ h => h) (Or.inl ⟨by rfl, ?yd0⟩) (ph_one (by kernel_rfl) hS1) ?rd0
  case yd0 => (intro w hSw; (try dsimp only at hSw); go_simp; try (with_reducible rfl))
  try simp only [Act.put, List.setIfInBounds_toArray, List.set_cons_zero, List.set_cons_succ]
  refine AnyTwo.step (i := 1) (o := { dst := some 7, op := _, type := _, pos := _, after := _, guard := _ }) (by kernel_rfl) rfl (fun K hK => ?_)
  go_simp
  refine (HV.out _ (bAfter HBW.out hS1.1)).mono ?_
  rintro e' w1 ⟨rfl, hb1⟩
  have hS1' : (fun w' : World => Below W0.heap.size W0 w' ∧ (w.heap.size < w'.heap.size ∧ w'.cell? ⟨w.heap.size, 0, none⟩ = some (.int .i64 t.kind) ∧ w'.cell? ⟨w.heap.size, 1, none⟩ = some (.int .i64 t.num) ∧ w'.cell? ⟨w.heap.size, 2, none⟩ = some (.slice a t.kids.length cap)) ∧ (w.heap.size + 1 < w'.heap.size ∧ w'.cell? ⟨w.heap.size + 1, 0, none⟩ = some (.slice na len ncap))) _ := holdN hS1 hb1
  refine hK.out _ _ (ph_one (by kernel_rfl) hS1') ?_
  clear hK K hS1
  have hS1 := hS1'
  clear hS1'
  try simp only [Act.put, List.setIfInBounds_toArray, List.set_cons_zero, List.set_cons_succ]
  refine AnyTwo.takeAny HT12 (i := 2) (oi := { dst := some 8, op := _, type := _, pos := _, after := _, guard := _ }) (v := ?vd2) rfl (by kernel_rfl) (by kernel_rfl) (by decide +kernel) (by rfl) (fun _ _ _ h => h) (Or.inl ⟨by rfl, ?yd2⟩) (ph_one (by kernel_rfl) hS1) ?rd2
  case yd2 => (intro w hSw; (try dsimp only at hSw); go_simp; try (with_reducible rfl))
  try simp only [Act.put, List.setIfInBounds_toArray, List.set_cons_zero, List.set_cons_succ]
  refine AnyTwo.takeAny HT12 (i := 3) (oi := { dst := some 9, op := _, type := _, pos := _, after := _, guard := _ }) (v := ?vd3) rfl (by kernel_rfl) (by kernel_rfl) (by decide +kernel) (by rfl) (fun _ _ _ h => h) (Or.inl ⟨by rfl, ?yd3⟩) (ph_one (by kernel_rfl) hS1) ?rd3
  case yd3 => (intro w hSw; (try dsimp only at hSw); go_simp; try (with_reducible rfl))
  try simp only [Act.put, List.setIfInBounds_toArray, List.set_cons_zero, List.set_cons_succ]
  refine AnyTwo.takeAny HT12 (i := 4) (oi := { dst := some 10, op := _, type := _, pos := _, after := _, guard := _ }) (v := ?vd4) rfl (by kernel_rfl) (by kernel_rfl) (by decide +kernel) (by rfl) (fun _ _ _ h => h) (Or.inl ⟨by rfl, ?yd4⟩) (ph_one (by kernel_rfl) hS1) ?rd4
  case yd4 => (intro w hSw; (try dsimp only at hSw); go_simp; try (with_reducible rfl))
  try simp only [Act.put, List.setIfInBounds_toArray, List.set_cons_zero, List.set_cons_succ]
  refine AnyTwo.step (i := 5) (o := { dst := some 11, op := _, type := _, pos := _, after := _, guard := _ }) (by kernel_rfl) rfl (fun K hK => ?_)
  go_simp
  refine (HNM.out _ (bAfter HBW.out hS1.1)).mono ?_
  rintro e' w' ⟨rfl, rfl⟩
  have hS1' : (fun w' : World => Below W0.heap.size W0 w' ∧ (w.heap.size < w'.heap.size ∧ w'.cell? ⟨w.heap.size, 0, none⟩ = some (.int .i64 t.kind) ∧ w'.cell? ⟨w.heap.size, 1, none⟩ = some (.int .i64 t.num) ∧ w'.cell? ⟨w.heap.size, 2, none⟩ = some (.slice a t.kids.length cap)) ∧ (w.heap.size + 1 < w'.heap.size ∧ w'.cell? ⟨w.heap.size + 1, 0, none⟩ = some (.slice na len ncap))) _ := hS1
  refine hK.out _ _ (ph_one (by kernel_rfl) hS1') ?_
  clear hK K hS1
  have hS1 := hS1'
  clear hS1'
  try simp only [Act.put, List.setIfInBounds_toArray, List.set_cons_zero, List.set_cons_succ]
  refine AnyTwo.takeAny HT12 (i := 6) (oi := { dst := some 12, op := _, type := _, pos := _, after := _, guard := _ }) (v := ?vd6) rfl (by kernel_rfl) (by kernel_rfl) (by decide +kernel) (by rfl) (fun _ _ _ h => h) (Or.inl ⟨by rfl, ?yd6⟩) (ph_one (by kernel_rfl) hS1) ?rd6
  case yd6 => (intro w hSw; (try dsimp only at hSw); go_simp; try (with_reducible rfl))
  try simp only [Act.put, List.setIfInBounds_toArray, List.set_cons_zero, List.set_cons_succ]
  refine AnyTwo.takeAny HT12 (i := 7) (oi := { dst := some 13, op := _, type := _, pos := _, after := _, guard := _ }) (v := ?vd7) rfl (by kernel_rfl) (by kernel_rfl) (by decide +kernel) (by rfl) (fun _ _ _ h => h) (Or.inl ⟨by rfl, ?yd7⟩) (ph_one (by kernel_rfl) hS1) ?rd7
  case yd7 => (intro w hSw; (try dsimp only at hSw); go_simp; try (with_reducible rfl))
  try simp only [Act.put, List.setIfInBounds_toArray, List.set_cons_zero, List.set_cons_succ]
  refine AnyTwo.takeAny HT12 (i := 8) (oi := { dst := some 14, op := _, type := _, pos := _, after := _, guard := _ }) (v := ?vd8) rfl (by kernel_rfl) (by kernel_rfl) (by decide +kernel) (by rfl) (fun _ _ _ h => h) (Or.inl ⟨by rfl, ?yd8⟩) (ph_one (by kernel_rfl) hS1) ?rd8
  case yd8 => (intro w hSw; (try dsimp only at hSw); go_simp; try (with_reducible rfl))
  try simp only [Act.put, List.setIfInBounds_toArray, List.set_cons_zero, List.set_cons_succ]
  refine AnyTwo.takeAny HT12 (i := 9) (oi := { dst := some 15, op := _, type := _, pos := _, after := _, guard := _ }) (v := ?vd9) rfl (by kernel_rfl) (by kernel_rfl) (by decide +kernel) (by rfl) (fun _ _ _ h => h) (Or.inl ⟨by rfl, ?yd9⟩) (ph_one (by kernel_rfl) hS1) ?rd9
  case yd9 => (intro w hSw; (try dsimp only at hSw); go_simp; try (with_reducible rfl))
  try simp only [Act.put, List.setIfInBounds_toArray, List.set_cons_zero, List.set_cons_succ]
  refine AnyTwo.takeAny HT12 (i := 10) (oi := { dst := some 16, op := _, type := _, pos := _, after := _, guard := _ }) (v := ?vd10) rfl (by kernel_rfl) (by kernel_rfl) (by decide +kernel) (by rfl) (fun _ _ _ h => h) (Or.inl ⟨by rfl, ?yd10⟩) (ph_one (by kernel_rfl) hS1) ?rd10
  case yd10 => (intro w hSw; (try dsimp only at hSw); go_simp; try (with_reducible rfl))
  try simp only [Act.put, List.setIfInBounds_toArray, List.set_cons_zero, List.set_cons_succ]
  refine AnyTwo.takeAny HT12 (i := 11) (oi := { dst := some 17, op := _, type := _, pos := _, after := _, guard := _ }) (v := ?vd11) rfl (by kernel_rfl) (by kernel_rfl) (by decide +kernel) (by rfl) (fun _ _ _ h => h) (Or.inl ⟨by rfl, ?yd11⟩) (ph_one (by kernel_rfl) hS1) ?rd11
  case yd11 => (intro w hSw; (try dsimp only at hSw); go_simp; try (with_reducible rfl))
  try simp only [Act.put, List.setIfInBounds_toArray, List.set_cons_zero, List.set_cons_succ]
  refine AnyTwo.step (i := 12) (o := { dst := some 18, op := _, type := _, pos := _, after := _, guard := _ }) (by kernel_rfl) rfl (fun K hK => ?_)
  go_simp
  refine (HM.out _ (bAfter HBW.out hS1.1)).mono ?_
  rintro e' w2 ⟨rfl, hb2⟩
  have hS1' : (fun w' : World => Below W0.heap.size W0 w' ∧ (w.heap.size < w'.heap.size ∧ w'.cell? ⟨w.heap.size, 0, none⟩ = some (.int .i64 t.kind) ∧ w'.cell? ⟨w.heap.size, 1, none⟩ = some (.int .i64 t.num) ∧ w'.cell? ⟨w.heap.size, 2, none⟩ = some (.slice a t.kids.length cap)) ∧ (w.heap.size + 1 < w'.heap.size ∧ w'.cell? ⟨w.heap.size + 1, 0, none⟩ = some (.slice na len ncap))) _ := holdN hS1 hb2
  refine hK.out _ _ (ph_one (by kernel_rfl) hS1') ?_
  clear hK K hS1
  have hS1 := hS1'
  clear hS1'
  try simp only [Act.put, List.setIfInBounds_toArray, List.set_cons_zero, List.set_cons_succ]
  refine AnyTwo.takeAny HT12 (i := 13) (oi := { dst := some 19, op := _, type := _, pos := _, after := _, guard := _ }) (v := ?vd13) rfl (by kernel_rfl) (by kernel_rfl) (by decide +kernel) (by rfl) (fun _ _ _ h => h) (Or.inl ⟨by rfl, ?yd13⟩) (ph_one (by kernel_rfl) hS1) ?rd13
  case yd13 => (intro w hSw; (try dsimp only at hSw); go_simp; try (with_reducible rfl))
  try simp only [Act.put, List.setIfInBounds_toArray, List.set_cons_zero, List.set_cons_succ]
  refine AnyTwo.step (i := 14) (o := { dst := some 20, op := _, type := _, pos := _, after := _, guard := _ }) (by kernel_rfl) rfl (fun K hK => ?_)
  go_simp
  refine hK.out _ _ (ph_end (by kernel_rfl) hS1) ?_
  clear hK K
  try simp only [Act.put, List.setIfInBounds_toArray, List.set_cons_zero, List.set_cons_succ]
  refine AnyTwo.done (by kernel_rfl) ?_ _
  have hbe := hS1.1
  replace HBW := tuck (bAfter HBW.out hbe)
  replace HV1 := tuck (HV1.out.below hbe)
  obtain ⟨-, ⟨zt, t0, t1, t2⟩, zn, n0⟩ := hS1
  have ZN := tuck zn
  have N0 := tuck n0
  clear hbe HT12
  go_wp2_with fail
  refine (HR.out _ HBW.out ZN.out N0.out).mono ?_
  rintro e' w3 hp
  obtain ⟨U, sa, sc, F, hU, rfl, hb2', hs2, hn2, hF2⟩ := hp.open
  have hz2 : w.heap.size + 1 + 1 < w2.heap.size := HV1.out.facts.1
  have hv2 := HV1.out.below hb2'
  obtain ⟨zv2, v20, v21, v22, v2f⟩ := hv2.facts
  have HB2 := tuck (bAfter HBW.out hb2')
  have HS2 := tuck hs2
  have HN2 := tuck hn2
  have HF2 : Hid (∀ g ∈ F, w.heap.size + 1 + 1 < g ∧ g < w3.heap.size) := tuck (fun g hg => ⟨by have := (hF2 g hg).1; omega, (hF2 g hg).2⟩)
  have HU := tuck hU
  clear hb2' hs2 hn2 hF2 hv2 hU HR HV1 t0 t1 t2 n0
  generalize tr Q = r at *
  go_wp2_with fail
  refine bodyPost_ret (v := .tuple #[.agg #[.int .i64 U.kind, .int .i64 U.num, .slice sa U.kids.length sc], .bool r]) (by simp [results, Try.results29, go_sem, *]) rfl (HP.out _ U _ F HU.out ?_ ?_ HN2.out fun y hy => ?_)
  · exact bSet3 HB2.out (by omega) _ _ _ _ _ _
  · exact HS2.out.set3 (fun h => by have := (HF2.out _ h).1; omega) _ _ _ _ _ _
  · rw [size_set3]
    have := HF2.out y hy
    omega

end Go.Proofs.Ytmihfbopahoejaa
