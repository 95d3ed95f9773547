/-
  impl.contract: the contractum of a redex.
-/
import Derived.Test.YthmcgpppacodeaaContrD
namespace Go.Proofs.Ythmcgpppacodeaa
open Go.RowKit

set_option maxRecDepth 100000 in
set_option maxHeartbeats 1600000 in
theorem contract_any (t : Tm) (hr : t.rootOk) (hk : ∀ i (hi : i < t.kids.length), t.kids[i].Valid) (w : World) (X : Nat → Prop) (hX : ∀ i, X i → i < w.heap.size) (s : Value) (hs : SlX w X t.kids s) :
    Calls Try.prog 44 #[.agg #[.int .i64 t.kind, .int .i64 t.num, s]] w (ContrPost X w (t.redex ≠ 0 ∧ t.contr.Valid) t.contr) := by
  obtain ⟨a, c, rfl⟩ := hs.form
  have hb2 := below2 w (.cells #[.int .i64 t.kind, .int .i64 t.num, .slice a t.kids.length c] 28) (.cells #[.int .i64 0, .int .i64 0, .slice none 0 0] 28)
  have HV0 := tuck ((VarAt.new w t.kind t.num (.slice a t.kids.length c)).below (below1 _ (.cells #[.int .i64 0, .int .i64 0, .slice none 0 0] 28)))
  have HV1 := tuck (var_new1 w (.cells #[.int .i64 t.kind, .int .i64 t.num, .slice a t.kids.length c] 28) 0 0 (.slice none 0 0))
  have hsz : ((w.alloc (.cells #[.int .i64 t.kind, .int .i64 t.num, .slice a t.kids.length c] 28)).alloc (.cells #[.int .i64 0, .int .i64 0, .slice none 0 0] 28)).heap.size = w.heap.size + 2 := by simp
  have HRED := tuck (redI_any t hr ((w.alloc (.cells #[.int .i64 t.kind, .int .i64 t.num, .slice a t.kids.length c] 28)).alloc (.cells #[.int .i64 0, .int .i64 0, .slice none 0 0] 28)) (.slice a t.kids.length c) (hs.sl.below hb2))
  have HB2 := tuck hb2
  have HSZ := tuck hsz
  have HS := tuck hs
  have hU0 : ((w.alloc (.cells #[.int .i64 t.kind, .int .i64 t.num, .slice a t.kids.length c] 28)).alloc (.cells #[.int .i64 0, .int .i64 0, .slice none 0 0] 28)).heap.size ≤ ((w.alloc (.cells #[.int .i64 t.kind, .int .i64 t.num, .slice a t.kids.length c] 28)).alloc (.cells #[.int .i64 0, .int .i64 0, .slice none 0 0] 28)).heap.size := Nat.le_refl _
  -- the frame's own blocks
  have HSW : Hid (∀ w2 : World, Below ((w.alloc (.cells #[.int .i64 t.kind, .int .i64 t.num, .slice a t.kids.length c] 28)).alloc (.cells #[.int .i64 0, .int .i64 0, .slice none 0 0] 28)).heap.size ((w.alloc (.cells #[.int .i64 t.kind, .int .i64 t.num, .slice a t.kids.length c] 28)).alloc (.cells #[.int .i64 0, .int .i64 0, .slice none 0 0] 28)) w2 → SlX w2 (With X w ((w.alloc (.cells #[.int .i64 t.kind, .int .i64 t.num, .slice a t.kids.length c] 28)).alloc (.cells #[.int .i64 0, .int .i64 0, .slice none 0 0] 28)).heap.size) t.kids (.slice a t.kids.length c)) := tuck fun w2 h => (hs.widen hb2 _).below h
  have HXW : Hid (∀ w2 : World, Below ((w.alloc (.cells #[.int .i64 t.kind, .int .i64 t.num, .slice a t.kids.length c] 28)).alloc (.cells #[.int .i64 0, .int .i64 0, .slice none 0 0] 28)).heap.size ((w.alloc (.cells #[.int .i64 t.kind, .int .i64 t.num, .slice a t.kids.length c] 28)).alloc (.cells #[.int .i64 0, .int .i64 0, .slice none 0 0] 28)) w2 → ∀ i, With X w ((w.alloc (.cells #[.int .i64 t.kind, .int .i64 t.num, .slice a t.kids.length c] 28)).alloc (.cells #[.int .i64 0, .int .i64 0, .slice none 0 0] 28)).heap.size i → i < w2.heap.size) := tuck fun w2 h i hi => Nat.lt_of_lt_of_le (With.lt hX hb2.size i hi) h.size
  clear hsz hU0 hb2
  by_cases h0 : t.redex = 0
  · have HP : Hid (∀ w', Below w.heap.size w w' → ContrPost X w (t.redex ≠ 0 ∧ t.contr.Valid) t.contr (.returned (.tuple #[.agg #[.int .i64 0, .int .i64 0, .slice none 0 0], .bool false])) w') := tuck fun w' h1 =>
      ⟨h1, zeroT, .slice none 0 0, by rw [tr_not (fun h => h.1 h0)]; rfl, SlX.nil _ _ _ _, fun h => absurd h0 h.1⟩
    generalize ContrPost X w (t.redex ≠ 0 ∧ t.contr.Valid) t.contr = post at *
    rw [h0] at HRED
    clear hs hX hr hk h0
    go_enter Try.func44, Try.ntmps44
    go_wp2_with fail
    generalize ((w.alloc (.cells #[.int .i64 t.kind, .int .i64 t.num, .slice a t.kids.length c] 28)).alloc (.cells #[.int .i64 0, .int .i64 0, .slice none 0 0] 28)) = W0 at *
    refine HRED.out.mono ?_
    rintro e w1 ⟨rfl, hb1⟩
    obtain ⟨z0, a0, a1, a2, -⟩ := (HV0.out.below hb1).facts
    obtain ⟨z1, r0, r1, r2, rf⟩ := (HV1.out.below hb1).facts
    have HB1 := tuck hb1
    clear hb1 HRED
    go_wp2_with (go_at_call 76; refine (rule0_any _).mono ?_; rintro e w2 ⟨rfl, rfl⟩)
    refine bodyPost_ret (v := .tuple #[.agg #[.int .i64 0, .int .i64 0, .slice none 0 0], .bool false]) (by simp [results, Try.results44, go_sem, *]) rfl (HP.out _ ?_)
    exact bSet3 (bAfter HB2.out HB1.out) (Nat.le_succ _) _ _ _ _ _ _
  have hkk : ∀ i, i < t.kids.length → (kidT t i).Valid := fun i hi => by rw [kidT_eq hi]; exact hk i hi
  have HPOST : Hid (∀ (c0 : Bool) (U : Tm) (a' : Option Addr) (c' : Nat) w', Below w.heap.size w w' → c0 = tr t.contr.Valid → SlX w' X U.kids (.slice a' U.kids.length c') → (t.contr.Valid → U = t.contr) → ContrPost X w (t.redex ≠ 0 ∧ t.contr.Valid) t.contr (.returned (.tuple #[.agg #[.int .i64 U.kind, .int .i64 U.num, .slice a' U.kids.length c'], .bool c0])) w') := tuck fun c0 U a' c' w' h1 h2 h3 h4 =>
    ⟨h1, U, _, by rw [h2, show (t.redex ≠ 0 ∧ t.contr.Valid) = t.contr.Valid from propext ⟨fun h => h.2, fun h => ⟨h0, h⟩⟩], h3, fun h => h4 h.2⟩
  generalize ContrPost X w (t.redex ≠ 0 ∧ t.contr.Valid) t.contr = post at *
  rcases redex_shape hr h0 with ⟨e, hkd, hl, hm⟩ | ⟨e, hkd, hl, hm⟩ | ⟨e, hkd, hl, hm⟩ | ⟨e, hkd, hl, hm⟩ | ⟨e, hkd, hl, hm⟩ | ⟨e, hkd, hl, hm⟩
  · have HCON : Hid (∀ w2 : World, Below ((w.alloc (.cells #[.int .i64 t.kind, .int .i64 t.num, .slice a t.kids.length c] 28)).alloc (.cells #[.int .i64 0, .int .i64 0, .slice none 0 0] 28)).heap.size ((w.alloc (.cells #[.int .i64 t.kind, .int .i64 t.num, .slice a t.kids.length c] 28)).alloc (.cells #[.int .i64 0, .int .i64 0, .slice none 0 0] 28)) w2 → Calls Try.prog 134 #[.func (.func 94) #[] #[], .agg #[.int .i64 t.kind, .int .i64 t.num, .slice a t.kids.length c]] w2 (ContrPost (With X w ((w.alloc (.cells #[.int .i64 t.kind, .int .i64 t.num, .slice a t.kids.length c] 28)).alloc (.cells #[.int .i64 0, .int .i64 0, .slice none 0 0] 28)).heap.size) w2 t.contr.Valid t.contr)) := tuck fun w2 h =>
      ruleFunc_any 94 (fun _ _ => by kernel_rfl) t _ _ w2 _ (HXW.out w2 h) _ (HSW.out w2 h) fun w' X' hX' hs' => apply_any t hr hk e w' X' hX' _ hs'
    have hmt : ∀ (n : Nat) (w : World), (method (n + 1) 99 (.func (.func 94) #[] #[]) "loop.example/depkernel/impl.contractum").run Try.prog w = .ok (134, .func (.func 94) #[] #[]) w := fun _ _ => by kernel_rfl
    have hcf : ∀ (args : Array Value) (w : World), (callFunc 134 args).run Try.prog w = .ok (.enter 134 args) w := fun _ _ => by kernel_rfl
    rw [e] at HRED
    clear hs hX hr hk h0 hkk hkd hl hm e HS HXW HSW
    generalize t.contr.Valid = V at *
    generalize t.contr = C at *
    go_enter Try.func44, Try.ntmps44
    go_wp2_with fail
    generalize ((w.alloc (.cells #[.int .i64 t.kind, .int .i64 t.num, .slice a t.kids.length c] 28)).alloc (.cells #[.int .i64 0, .int .i64 0, .slice none 0 0] 28)) = W0 at *
    refine HRED.out.mono ?_
    rintro e w1 ⟨rfl, hb1⟩
    obtain ⟨z0, a0, a1, a2, -⟩ := (HV0.out.below hb1).facts
    obtain ⟨z1, r0, r1, r2, rf⟩ := (HV1.out.below hb1).facts
    have HB1 := tuck hb1
    clear hb1 HRED
    go_wp2_with (go_at_call 76; refine (rule1_any _).mono ?_; rintro e w2 ⟨rfl, rfl⟩)
    refine (HCON.out _ HB1.out).mono ?_
    rintro e w3 hpost
    obtain ⟨U, a', c', rfl, hb3, hs3, hU⟩ := hpost.open
    replace r0 := (hb3.cell (p := ⟨w.heap.size + 1, 0, none⟩) z1).trans r0
    replace r1 := (hb3.cell (p := ⟨w.heap.size + 1, 1, none⟩) z1).trans r1
    replace r2 := (hb3.cell (p := ⟨w.heap.size + 1, 2, none⟩) z1).trans r2
    have rf3 : ∀ i, w3.frozen? ⟨w.heap.size + 1, i, none⟩ = false := fun i => (hb3.frozen (p := ⟨w.heap.size + 1, i, none⟩) z1).trans (rf i)
    have HS3 := tuck hs3
    have HU := tuck hU
    have HB3 := tuck (bAfter (bAfter HB2.out HB1.out) hb3)
    clear hpost hb3 hs3 hU HCON rf a0 a1 a2 z0
    go_wp2_with fail
    refine bodyPost_ret (v := .tuple #[.agg #[.int .i64 U.kind, .int .i64 U.num, .slice a' U.kids.length c'], .bool (tr V)]) (by simp [results, Try.results44, go_sem, *]) rfl (HPOST.out _ U a' c' _ ?_ ?_ ?_ ?_)
    · exact bSet3 HB3.out (Nat.le_succ _) _ _ _ _ _ _
    · rfl
    · exact (HS3.out.set3 (Or.inr ⟨Nat.le_succ _, by rw [HSZ.out]; omega⟩) _ _ _ _ _ _).narrow fun i h => Or.inl h
    · exact HU.out
  · have hcv : t.contr.Valid := contr_part hk hr h0 (by omega) (by omega)
    have hce : t.contr = kidT t 1 := by unfold Tm.contr; rw [if_neg (by omega), if_pos e]
    have HCON : Hid (∀ w2 : World, Below ((w.alloc (.cells #[.int .i64 t.kind, .int .i64 t.num, .slice a t.kids.length c] 28)).alloc (.cells #[.int .i64 0, .int .i64 0, .slice none 0 0] 28)).heap.size ((w.alloc (.cells #[.int .i64 t.kind, .int .i64 t.num, .slice a t.kids.length c] 28)).alloc (.cells #[.int .i64 0, .int .i64 0, .slice none 0 0] 28)) w2 → Calls Try.prog 135 #[.slice (some ⟨w2.heap.size, 0, none⟩) 1 1, .agg #[.int .i64 t.kind, .int .i64 t.num, .slice a t.kids.length c]] (w2.alloc (.cells #[.int .i64 1] 3)) (PartPost (With X w ((w.alloc (.cells #[.int .i64 t.kind, .int .i64 t.num, .slice a t.kids.length c] 28)).alloc (.cells #[.int .i64 0, .int .i64 0, .slice none 0 0] 28)).heap.size) (w2.alloc (.cells #[.int .i64 1] 3)) t.contr)) := tuck fun w2 h => by
      have hq := part_any [1] t (⟨by omega, trivial⟩) (by simp) (w2.alloc (.cells #[.int .i64 1] 3)) (With X w ((w.alloc (.cells #[.int .i64 t.kind, .int .i64 t.num, .slice a t.kids.length c] 28)).alloc (.cells #[.int .i64 0, .int .i64 0, .slice none 0 0] 28)).heap.size) _ ((HSW.out w2 h).below (below1 _ _)) w2.heap.size 1 (fun j hj => by
        simp only [List.length_cons, List.length_nil] at hj
        obtain rfl : j = 0 := by omega
        simp) (fun j hj => by
        simp only [List.length_cons, List.length_nil] at hj
        obtain rfl : j = 0 := by omega
        simp) (fun _ => by simp)
      rw [hce]
      exact hq
    have hmt : ∀ (n : Nat) (w : World) (v : Value), (method (n + 1) 101 v "loop.example/depkernel/impl.contractum").run Try.prog w = .ok (135, v) w := fun _ _ _ => by kernel_rfl
    have hcf : ∀ (args : Array Value) (w : World), (callFunc 135 args).run Try.prog w = .ok (.enter 135 args) w := fun _ _ => by kernel_rfl
    rw [e] at HRED
    rw [tr_of hcv] at HPOST
    clear hs hX hr hk h0 hkk hkd hl hm e HS HXW HSW hcv hce
    generalize t.contr = U at *
    go_enter Try.func44, Try.ntmps44
    go_wp2_with fail
    generalize ((w.alloc (.cells #[.int .i64 t.kind, .int .i64 t.num, .slice a t.kids.length c] 28)).alloc (.cells #[.int .i64 0, .int .i64 0, .slice none 0 0] 28)) = W0 at *
    refine HRED.out.mono ?_
    rintro e w1 ⟨rfl, hb1⟩
    obtain ⟨z0, a0, a1, a2, -⟩ := (HV0.out.below hb1).facts
    obtain ⟨z1, r0, r1, r2, rf⟩ := (HV1.out.below hb1).facts
    have HB1 := tuck hb1
    clear hb1 HRED
    have hz1w : w.heap.size + 1 < (w1.alloc (.cells #[.int .i64 1] 3)).heap.size := Nat.lt_of_lt_of_le z1 (below1 _ _).size
    replace r0 := ((below1 w1 (.cells #[.int .i64 1] 3)).cell (p := ⟨w.heap.size + 1, 0, none⟩) z1).trans r0
    replace r1 := ((below1 w1 (.cells #[.int .i64 1] 3)).cell (p := ⟨w.heap.size + 1, 1, none⟩) z1).trans r1
    replace r2 := ((below1 w1 (.cells #[.int .i64 1] 3)).cell (p := ⟨w.heap.size + 1, 2, none⟩) z1).trans r2
    have rf1 : ∀ i, (w1.alloc (.cells #[.int .i64 1] 3)).frozen? ⟨w.heap.size + 1, i, none⟩ = false := fun i => ((below1 w1 (.cells #[.int .i64 1] 3)).frozen (p := ⟨w.heap.size + 1, i, none⟩) z1).trans (rf i)
    have x0 := ((below1 w1 (.cells #[.int .i64 1] 3)).cell (p := ⟨w.heap.size, 0, none⟩) z0).trans a0
    have x1 := ((below1 w1 (.cells #[.int .i64 1] 3)).cell (p := ⟨w.heap.size, 1, none⟩) z0).trans a1
    have x2 := ((below1 w1 (.cells #[.int .i64 1] 3)).cell (p := ⟨w.heap.size, 2, none⟩) z0).trans a2
    have HBA := tuck (below1 w1 (.cells #[.int .i64 1] 3))
    clear a0 a1 a2 rf
    go_wp2_with (go_at_call 76; refine (rule2_any _).mono ?_; rintro e w2 ⟨rfl, rfl⟩)
    refine (HCON.out _ HB1.out).mono ?_
    rintro e w3 ⟨hb3, s3, rfl, hs3⟩
    obtain ⟨a', c', rfl⟩ := hs3.form
    replace r0 := (hb3.cell (p := ⟨w.heap.size + 1, 0, none⟩) hz1w).trans r0
    replace r1 := (hb3.cell (p := ⟨w.heap.size + 1, 1, none⟩) hz1w).trans r1
    replace r2 := (hb3.cell (p := ⟨w.heap.size + 1, 2, none⟩) hz1w).trans r2
    have rf3 : ∀ i, w3.frozen? ⟨w.heap.size + 1, i, none⟩ = false := fun i => (hb3.frozen (p := ⟨w.heap.size + 1, i, none⟩) hz1w).trans (rf1 i)
    have HS3 := tuck hs3
    have HB3 := tuck (bAfter (bAfter (bAfter HB2.out HB1.out) HBA.out) hb3)
    clear hb3 hs3 HCON rf1 x0 x1 x2 z0
    go_wp2_with fail
    refine bodyPost_ret (v := .tuple #[.agg #[.int .i64 U.kind, .int .i64 U.num, .slice a' U.kids.length c'], .bool true]) (by simp [results, Try.results44, go_sem, *]) rfl (HPOST.out _ U a' c' _ ?_ ?_ ?_ ?_)
    · exact bSet3 HB3.out (Nat.le_succ _) _ _ _ _ _ _
    · rfl
    · exact (HS3.out.set3 (Or.inr ⟨Nat.le_succ _, by rw [HSZ.out]; omega⟩) _ _ _ _ _ _).narrow fun i h => Or.inl h
    · exact fun _ => rfl
  · have HCON : Hid (∀ w2 : World, Below ((w.alloc (.cells #[.int .i64 t.kind, .int .i64 t.num, .slice a t.kids.length c] 28)).alloc (.cells #[.int .i64 0, .int .i64 0, .slice none 0 0] 28)).heap.size ((w.alloc (.cells #[.int .i64 t.kind, .int .i64 t.num, .slice a t.kids.length c] 28)).alloc (.cells #[.int .i64 0, .int .i64 0, .slice none 0 0] 28)) w2 → Calls Try.prog 134 #[.func (.func 95) #[] #[], .agg #[.int .i64 t.kind, .int .i64 t.num, .slice a t.kids.length c]] w2 (ContrPost (With X w ((w.alloc (.cells #[.int .i64 t.kind, .int .i64 t.num, .slice a t.kids.length c] 28)).alloc (.cells #[.int .i64 0, .int .i64 0, .slice none 0 0] 28)).heap.size) w2 t.contr.Valid t.contr)) := tuck fun w2 h =>
      ruleFunc_any 95 (fun _ _ => by kernel_rfl) t _ _ w2 _ (HXW.out w2 h) _ (HSW.out w2 h) fun w' X' hX' hs' => unroll_any t hr hk e w' X' hX' _ hs'
    have hmt : ∀ (n : Nat) (w : World), (method (n + 1) 99 (.func (.func 95) #[] #[]) "loop.example/depkernel/impl.contractum").run Try.prog w = .ok (134, .func (.func 95) #[] #[]) w := fun _ _ => by kernel_rfl
    have hcf : ∀ (args : Array Value) (w : World), (callFunc 134 args).run Try.prog w = .ok (.enter 134 args) w := fun _ _ => by kernel_rfl
    rw [e] at HRED
    clear hs hX hr hk h0 hkk hkd hl hm e HS HXW HSW
    generalize t.contr.Valid = V at *
    generalize t.contr = C at *
    go_enter Try.func44, Try.ntmps44
    go_wp2_with fail
    generalize ((w.alloc (.cells #[.int .i64 t.kind, .int .i64 t.num, .slice a t.kids.length c] 28)).alloc (.cells #[.int .i64 0, .int .i64 0, .slice none 0 0] 28)) = W0 at *
    refine HRED.out.mono ?_
    rintro e w1 ⟨rfl, hb1⟩
    obtain ⟨z0, a0, a1, a2, -⟩ := (HV0.out.below hb1).facts
    obtain ⟨z1, r0, r1, r2, rf⟩ := (HV1.out.below hb1).facts
    have HB1 := tuck hb1
    clear hb1 HRED
    go_wp2_with (go_at_call 76; refine (rule3_any _).mono ?_; rintro e w2 ⟨rfl, rfl⟩)
    refine (HCON.out _ HB1.out).mono ?_
    rintro e w3 hpost
    obtain ⟨U, a', c', rfl, hb3, hs3, hU⟩ := hpost.open
    replace r0 := (hb3.cell (p := ⟨w.heap.size + 1, 0, none⟩) z1).trans r0
    replace r1 := (hb3.cell (p := ⟨w.heap.size + 1, 1, none⟩) z1).trans r1
    replace r2 := (hb3.cell (p := ⟨w.heap.size + 1, 2, none⟩) z1).trans r2
    have rf3 : ∀ i, w3.frozen? ⟨w.heap.size + 1, i, none⟩ = false := fun i => (hb3.frozen (p := ⟨w.heap.size + 1, i, none⟩) z1).trans (rf i)
    have HS3 := tuck hs3
    have HU := tuck hU
    have HB3 := tuck (bAfter (bAfter HB2.out HB1.out) hb3)
    clear hpost hb3 hs3 hU HCON rf a0 a1 a2 z0
    go_wp2_with fail
    refine bodyPost_ret (v := .tuple #[.agg #[.int .i64 U.kind, .int .i64 U.num, .slice a' U.kids.length c'], .bool (tr V)]) (by simp [results, Try.results44, go_sem, *]) rfl (HPOST.out _ U a' c' _ ?_ ?_ ?_ ?_)
    · exact bSet3 HB3.out (Nat.le_succ _) _ _ _ _ _ _
    · rfl
    · exact (HS3.out.set3 (Or.inr ⟨Nat.le_succ _, by rw [HSZ.out]; omega⟩) _ _ _ _ _ _).narrow fun i h => Or.inl h
    · exact HU.out
  · have hcv : t.contr.Valid := contr_part hk hr h0 (by omega) (by omega)
    have hce : t.contr = kidT t 2 := by unfold Tm.contr; rw [if_neg (by omega), if_neg (by omega), if_neg (by omega), if_pos e]
    have HCON : Hid (∀ w2 : World, Below ((w.alloc (.cells #[.int .i64 t.kind, .int .i64 t.num, .slice a t.kids.length c] 28)).alloc (.cells #[.int .i64 0, .int .i64 0, .slice none 0 0] 28)).heap.size ((w.alloc (.cells #[.int .i64 t.kind, .int .i64 t.num, .slice a t.kids.length c] 28)).alloc (.cells #[.int .i64 0, .int .i64 0, .slice none 0 0] 28)) w2 → Calls Try.prog 135 #[.slice (some ⟨w2.heap.size, 0, none⟩) 1 1, .agg #[.int .i64 t.kind, .int .i64 t.num, .slice a t.kids.length c]] (w2.alloc (.cells #[.int .i64 2] 3)) (PartPost (With X w ((w.alloc (.cells #[.int .i64 t.kind, .int .i64 t.num, .slice a t.kids.length c] 28)).alloc (.cells #[.int .i64 0, .int .i64 0, .slice none 0 0] 28)).heap.size) (w2.alloc (.cells #[.int .i64 2] 3)) t.contr)) := tuck fun w2 h => by
      have hq := part_any [2] t (⟨by omega, trivial⟩) (by simp) (w2.alloc (.cells #[.int .i64 2] 3)) (With X w ((w.alloc (.cells #[.int .i64 t.kind, .int .i64 t.num, .slice a t.kids.length c] 28)).alloc (.cells #[.int .i64 0, .int .i64 0, .slice none 0 0] 28)).heap.size) _ ((HSW.out w2 h).below (below1 _ _)) w2.heap.size 1 (fun j hj => by
        simp only [List.length_cons, List.length_nil] at hj
        obtain rfl : j = 0 := by omega
        simp) (fun j hj => by
        simp only [List.length_cons, List.length_nil] at hj
        obtain rfl : j = 0 := by omega
        simp) (fun _ => by simp)
      rw [hce]
      exact hq
    have hmt : ∀ (n : Nat) (w : World) (v : Value), (method (n + 1) 101 v "loop.example/depkernel/impl.contractum").run Try.prog w = .ok (135, v) w := fun _ _ _ => by kernel_rfl
    have hcf : ∀ (args : Array Value) (w : World), (callFunc 135 args).run Try.prog w = .ok (.enter 135 args) w := fun _ _ => by kernel_rfl
    rw [e] at HRED
    rw [tr_of hcv] at HPOST
    clear hs hX hr hk h0 hkk hkd hl hm e HS HXW HSW hcv hce
    generalize t.contr = U at *
    go_enter Try.func44, Try.ntmps44
    go_wp2_with fail
    generalize ((w.alloc (.cells #[.int .i64 t.kind, .int .i64 t.num, .slice a t.kids.length c] 28)).alloc (.cells #[.int .i64 0, .int .i64 0, .slice none 0 0] 28)) = W0 at *
    refine HRED.out.mono ?_
    rintro e w1 ⟨rfl, hb1⟩
    obtain ⟨z0, a0, a1, a2, -⟩ := (HV0.out.below hb1).facts
    obtain ⟨z1, r0, r1, r2, rf⟩ := (HV1.out.below hb1).facts
    have HB1 := tuck hb1
    clear hb1 HRED
    have hz1w : w.heap.size + 1 < (w1.alloc (.cells #[.int .i64 2] 3)).heap.size := Nat.lt_of_lt_of_le z1 (below1 _ _).size
    replace r0 := ((below1 w1 (.cells #[.int .i64 2] 3)).cell (p := ⟨w.heap.size + 1, 0, none⟩) z1).trans r0
    replace r1 := ((below1 w1 (.cells #[.int .i64 2] 3)).cell (p := ⟨w.heap.size + 1, 1, none⟩) z1).trans r1
    replace r2 := ((below1 w1 (.cells #[.int .i64 2] 3)).cell (p := ⟨w.heap.size + 1, 2, none⟩) z1).trans r2
    have rf1 : ∀ i, (w1.alloc (.cells #[.int .i64 2] 3)).frozen? ⟨w.heap.size + 1, i, none⟩ = false := fun i => ((below1 w1 (.cells #[.int .i64 2] 3)).frozen (p := ⟨w.heap.size + 1, i, none⟩) z1).trans (rf i)
    have x0 := ((below1 w1 (.cells #[.int .i64 2] 3)).cell (p := ⟨w.heap.size, 0, none⟩) z0).trans a0
    have x1 := ((below1 w1 (.cells #[.int .i64 2] 3)).cell (p := ⟨w.heap.size, 1, none⟩) z0).trans a1
    have x2 := ((below1 w1 (.cells #[.int .i64 2] 3)).cell (p := ⟨w.heap.size, 2, none⟩) z0).trans a2
    have HBA := tuck (below1 w1 (.cells #[.int .i64 2] 3))
    clear a0 a1 a2 rf
    go_wp2_with (go_at_call 76; refine (rule4_any _).mono ?_; rintro e w2 ⟨rfl, rfl⟩)
    refine (HCON.out _ HB1.out).mono ?_
    rintro e w3 ⟨hb3, s3, rfl, hs3⟩
    obtain ⟨a', c', rfl⟩ := hs3.form
    replace r0 := (hb3.cell (p := ⟨w.heap.size + 1, 0, none⟩) hz1w).trans r0
    replace r1 := (hb3.cell (p := ⟨w.heap.size + 1, 1, none⟩) hz1w).trans r1
    replace r2 := (hb3.cell (p := ⟨w.heap.size + 1, 2, none⟩) hz1w).trans r2
    have rf3 : ∀ i, w3.frozen? ⟨w.heap.size + 1, i, none⟩ = false := fun i => (hb3.frozen (p := ⟨w.heap.size + 1, i, none⟩) hz1w).trans (rf1 i)
    have HS3 := tuck hs3
    have HB3 := tuck (bAfter (bAfter (bAfter HB2.out HB1.out) HBA.out) hb3)
    clear hb3 hs3 HCON rf1 x0 x1 x2 z0
    go_wp2_with fail
    refine bodyPost_ret (v := .tuple #[.agg #[.int .i64 U.kind, .int .i64 U.num, .slice a' U.kids.length c'], .bool true]) (by simp [results, Try.results44, go_sem, *]) rfl (HPOST.out _ U a' c' _ ?_ ?_ ?_ ?_)
    · exact bSet3 HB3.out (Nat.le_succ _) _ _ _ _ _ _
    · rfl
    · exact (HS3.out.set3 (Or.inr ⟨Nat.le_succ _, by rw [HSZ.out]; omega⟩) _ _ _ _ _ _).narrow fun i h => Or.inl h
    · exact fun _ => rfl
  · have hcv : t.contr.Valid := contr_part hk hr h0 (by omega) (by omega)
    have hce : t.contr = kidT (kidT t 0) 1 := by unfold Tm.contr; rw [if_neg (by omega), if_neg (by omega), if_neg (by omega), if_neg (by omega), if_pos e]
    have HCON : Hid (∀ w2 : World, Below ((w.alloc (.cells #[.int .i64 t.kind, .int .i64 t.num, .slice a t.kids.length c] 28)).alloc (.cells #[.int .i64 0, .int .i64 0, .slice none 0 0] 28)).heap.size ((w.alloc (.cells #[.int .i64 t.kind, .int .i64 t.num, .slice a t.kids.length c] 28)).alloc (.cells #[.int .i64 0, .int .i64 0, .slice none 0 0] 28)) w2 → Calls Try.prog 135 #[.slice (some ⟨w2.heap.size, 0, none⟩) 2 2, .agg #[.int .i64 t.kind, .int .i64 t.num, .slice a t.kids.length c]] (w2.alloc (.cells #[.int .i64 0, .int .i64 1] 3)) (PartPost (With X w ((w.alloc (.cells #[.int .i64 t.kind, .int .i64 t.num, .slice a t.kids.length c] 28)).alloc (.cells #[.int .i64 0, .int .i64 0, .slice none 0 0] 28)).heap.size) (w2.alloc (.cells #[.int .i64 0, .int .i64 1] 3)) t.contr)) := tuck fun w2 h => by
      have hq := part_any [0, 1] t (⟨by omega, by have := kid_len (hkk 0 (by omega)).root hm (a := 3) (by decide); omega, trivial⟩) (by simp) (w2.alloc (.cells #[.int .i64 0, .int .i64 1] 3)) (With X w ((w.alloc (.cells #[.int .i64 t.kind, .int .i64 t.num, .slice a t.kids.length c] 28)).alloc (.cells #[.int .i64 0, .int .i64 0, .slice none 0 0] 28)).heap.size) _ ((HSW.out w2 h).below (below1 _ _)) w2.heap.size 2 (fun j hj => by
        simp only [List.length_cons, List.length_nil] at hj
        obtain rfl | rfl : j = 0 ∨ j = 1 := by omega
        · simp
        · simp) (fun j hj => by
        simp only [List.length_cons, List.length_nil] at hj
        obtain rfl | rfl : j = 0 ∨ j = 1 := by omega
        · simp
        · simp) (fun _ => by simp)
      rw [hce]
      exact hq
    have hmt : ∀ (n : Nat) (w : World) (v : Value), (method (n + 1) 101 v "loop.example/depkernel/impl.contractum").run Try.prog w = .ok (135, v) w := fun _ _ _ => by kernel_rfl
    have hcf : ∀ (args : Array Value) (w : World), (callFunc 135 args).run Try.prog w = .ok (.enter 135 args) w := fun _ _ => by kernel_rfl
    rw [e] at HRED
    rw [tr_of hcv] at HPOST
    clear hs hX hr hk h0 hkk hkd hl hm e HS HXW HSW hcv hce
    generalize t.contr = U at *
    go_enter Try.func44, Try.ntmps44
    go_wp2_with fail
    generalize ((w.alloc (.cells #[.int .i64 t.kind, .int .i64 t.num, .slice a t.kids.length c] 28)).alloc (.cells #[.int .i64 0, .int .i64 0, .slice none 0 0] 28)) = W0 at *
    refine HRED.out.mono ?_
    rintro e w1 ⟨rfl, hb1⟩
    obtain ⟨z0, a0, a1, a2, -⟩ := (HV0.out.below hb1).facts
    obtain ⟨z1, r0, r1, r2, rf⟩ := (HV1.out.below hb1).facts
    have HB1 := tuck hb1
    clear hb1 HRED
    have hz1w : w.heap.size + 1 < (w1.alloc (.cells #[.int .i64 0, .int .i64 1] 3)).heap.size := Nat.lt_of_lt_of_le z1 (below1 _ _).size
    replace r0 := ((below1 w1 (.cells #[.int .i64 0, .int .i64 1] 3)).cell (p := ⟨w.heap.size + 1, 0, none⟩) z1).trans r0
    replace r1 := ((below1 w1 (.cells #[.int .i64 0, .int .i64 1] 3)).cell (p := ⟨w.heap.size + 1, 1, none⟩) z1).trans r1
    replace r2 := ((below1 w1 (.cells #[.int .i64 0, .int .i64 1] 3)).cell (p := ⟨w.heap.size + 1, 2, none⟩) z1).trans r2
    have rf1 : ∀ i, (w1.alloc (.cells #[.int .i64 0, .int .i64 1] 3)).frozen? ⟨w.heap.size + 1, i, none⟩ = false := fun i => ((below1 w1 (.cells #[.int .i64 0, .int .i64 1] 3)).frozen (p := ⟨w.heap.size + 1, i, none⟩) z1).trans (rf i)
    have x0 := ((below1 w1 (.cells #[.int .i64 0, .int .i64 1] 3)).cell (p := ⟨w.heap.size, 0, none⟩) z0).trans a0
    have x1 := ((below1 w1 (.cells #[.int .i64 0, .int .i64 1] 3)).cell (p := ⟨w.heap.size, 1, none⟩) z0).trans a1
    have x2 := ((below1 w1 (.cells #[.int .i64 0, .int .i64 1] 3)).cell (p := ⟨w.heap.size, 2, none⟩) z0).trans a2
    have HBA := tuck (below1 w1 (.cells #[.int .i64 0, .int .i64 1] 3))
    clear a0 a1 a2 rf
    go_wp2_with (go_at_call 76; refine (rule5_any _).mono ?_; rintro e w2 ⟨rfl, rfl⟩)
    refine (HCON.out _ HB1.out).mono ?_
    rintro e w3 ⟨hb3, s3, rfl, hs3⟩
    obtain ⟨a', c', rfl⟩ := hs3.form
    replace r0 := (hb3.cell (p := ⟨w.heap.size + 1, 0, none⟩) hz1w).trans r0
    replace r1 := (hb3.cell (p := ⟨w.heap.size + 1, 1, none⟩) hz1w).trans r1
    replace r2 := (hb3.cell (p := ⟨w.heap.size + 1, 2, none⟩) hz1w).trans r2
    have rf3 : ∀ i, w3.frozen? ⟨w.heap.size + 1, i, none⟩ = false := fun i => (hb3.frozen (p := ⟨w.heap.size + 1, i, none⟩) hz1w).trans (rf1 i)
    have HS3 := tuck hs3
    have HB3 := tuck (bAfter (bAfter (bAfter HB2.out HB1.out) HBA.out) hb3)
    clear hb3 hs3 HCON rf1 x0 x1 x2 z0
    go_wp2_with fail
    refine bodyPost_ret (v := .tuple #[.agg #[.int .i64 U.kind, .int .i64 U.num, .slice a' U.kids.length c'], .bool true]) (by simp [results, Try.results44, go_sem, *]) rfl (HPOST.out _ U a' c' _ ?_ ?_ ?_ ?_)
    · exact bSet3 HB3.out (Nat.le_succ _) _ _ _ _ _ _
    · rfl
    · exact (HS3.out.set3 (Or.inr ⟨Nat.le_succ _, by rw [HSZ.out]; omega⟩) _ _ _ _ _ _).narrow fun i h => Or.inl h
    · exact fun _ => rfl
  · have hcv : t.contr.Valid := contr_part hk hr h0 (by omega) (by omega)
    have hce : t.contr = kidT (kidT t 0) 2 := by unfold Tm.contr; rw [if_neg (by omega), if_neg (by omega), if_neg (by omega), if_neg (by omega), if_neg (by omega)]
    have HCON : Hid (∀ w2 : World, Below ((w.alloc (.cells #[.int .i64 t.kind, .int .i64 t.num, .slice a t.kids.length c] 28)).alloc (.cells #[.int .i64 0, .int .i64 0, .slice none 0 0] 28)).heap.size ((w.alloc (.cells #[.int .i64 t.kind, .int .i64 t.num, .slice a t.kids.length c] 28)).alloc (.cells #[.int .i64 0, .int .i64 0, .slice none 0 0] 28)) w2 → Calls Try.prog 135 #[.slice (some ⟨w2.heap.size, 0, none⟩) 2 2, .agg #[.int .i64 t.kind, .int .i64 t.num, .slice a t.kids.length c]] (w2.alloc (.cells #[.int .i64 0, .int .i64 2] 3)) (PartPost (With X w ((w.alloc (.cells #[.int .i64 t.kind, .int .i64 t.num, .slice a t.kids.length c] 28)).alloc (.cells #[.int .i64 0, .int .i64 0, .slice none 0 0] 28)).heap.size) (w2.alloc (.cells #[.int .i64 0, .int .i64 2] 3)) t.contr)) := tuck fun w2 h => by
      have hq := part_any [0, 2] t (⟨by omega, by have := kid_len (hkk 0 (by omega)).root hm (a := 3) (by decide); omega, trivial⟩) (by simp) (w2.alloc (.cells #[.int .i64 0, .int .i64 2] 3)) (With X w ((w.alloc (.cells #[.int .i64 t.kind, .int .i64 t.num, .slice a t.kids.length c] 28)).alloc (.cells #[.int .i64 0, .int .i64 0, .slice none 0 0] 28)).heap.size) _ ((HSW.out w2 h).below (below1 _ _)) w2.heap.size 2 (fun j hj => by
        simp only [List.length_cons, List.length_nil] at hj
        obtain rfl | rfl : j = 0 ∨ j = 1 := by omega
        · simp
        · simp) (fun j hj => by
        simp only [List.length_cons, List.length_nil] at hj
        obtain rfl | rfl : j = 0 ∨ j = 1 := by omega
        · simp
        · simp) (fun _ => by simp)
      rw [hce]
      exact hq
    have hmt : ∀ (n : Nat) (w : World) (v : Value), (method (n + 1) 101 v "loop.example/depkernel/impl.contractum").run Try.prog w = .ok (135, v) w := fun _ _ _ => by kernel_rfl
    have hcf : ∀ (args : Array Value) (w : World), (callFunc 135 args).run Try.prog w = .ok (.enter 135 args) w := fun _ _ => by kernel_rfl
    rw [e] at HRED
    rw [tr_of hcv] at HPOST
    clear hs hX hr hk h0 hkk hkd hl hm e HS HXW HSW hcv hce
    generalize t.contr = U at *
    go_enter Try.func44, Try.ntmps44
    go_wp2_with fail
    generalize ((w.alloc (.cells #[.int .i64 t.kind, .int .i64 t.num, .slice a t.kids.length c] 28)).alloc (.cells #[.int .i64 0, .int .i64 0, .slice none 0 0] 28)) = W0 at *
    refine HRED.out.mono ?_
    rintro e w1 ⟨rfl, hb1⟩
    obtain ⟨z0, a0, a1, a2, -⟩ := (HV0.out.below hb1).facts
    obtain ⟨z1, r0, r1, r2, rf⟩ := (HV1.out.below hb1).facts
    have HB1 := tuck hb1
    clear hb1 HRED
    have hz1w : w.heap.size + 1 < (w1.alloc (.cells #[.int .i64 0, .int .i64 2] 3)).heap.size := Nat.lt_of_lt_of_le z1 (below1 _ _).size
    replace r0 := ((below1 w1 (.cells #[.int .i64 0, .int .i64 2] 3)).cell (p := ⟨w.heap.size + 1, 0, none⟩) z1).trans r0
    replace r1 := ((below1 w1 (.cells #[.int .i64 0, .int .i64 2] 3)).cell (p := ⟨w.heap.size + 1, 1, none⟩) z1).trans r1
    replace r2 := ((below1 w1 (.cells #[.int .i64 0, .int .i64 2] 3)).cell (p := ⟨w.heap.size + 1, 2, none⟩) z1).trans r2
    have rf1 : ∀ i, (w1.alloc (.cells #[.int .i64 0, .int .i64 2] 3)).frozen? ⟨w.heap.size + 1, i, none⟩ = false := fun i => ((below1 w1 (.cells #[.int .i64 0, .int .i64 2] 3)).frozen (p := ⟨w.heap.size + 1, i, none⟩) z1).trans (rf i)
    have x0 := ((below1 w1 (.cells #[.int .i64 0, .int .i64 2] 3)).cell (p := ⟨w.heap.size, 0, none⟩) z0).trans a0
    have x1 := ((below1 w1 (.cells #[.int .i64 0, .int .i64 2] 3)).cell (p := ⟨w.heap.size, 1, none⟩) z0).trans a1
    have x2 := ((below1 w1 (.cells #[.int .i64 0, .int .i64 2] 3)).cell (p := ⟨w.heap.size, 2, none⟩) z0).trans a2
    have HBA := tuck (below1 w1 (.cells #[.int .i64 0, .int .i64 2] 3))
    clear a0 a1 a2 rf
    go_wp2_with (go_at_call 76; refine (rule6_any _).mono ?_; rintro e w2 ⟨rfl, rfl⟩)
    refine (HCON.out _ HB1.out).mono ?_
    rintro e w3 ⟨hb3, s3, rfl, hs3⟩
    obtain ⟨a', c', rfl⟩ := hs3.form
    replace r0 := (hb3.cell (p := ⟨w.heap.size + 1, 0, none⟩) hz1w).trans r0
    replace r1 := (hb3.cell (p := ⟨w.heap.size + 1, 1, none⟩) hz1w).trans r1
    replace r2 := (hb3.cell (p := ⟨w.heap.size + 1, 2, none⟩) hz1w).trans r2
    have rf3 : ∀ i, w3.frozen? ⟨w.heap.size + 1, i, none⟩ = false := fun i => (hb3.frozen (p := ⟨w.heap.size + 1, i, none⟩) hz1w).trans (rf1 i)
    have HS3 := tuck hs3
    have HB3 := tuck (bAfter (bAfter (bAfter HB2.out HB1.out) HBA.out) hb3)
    clear hb3 hs3 HCON rf1 x0 x1 x2 z0
    go_wp2_with fail
    refine bodyPost_ret (v := .tuple #[.agg #[.int .i64 U.kind, .int .i64 U.num, .slice a' U.kids.length c'], .bool true]) (by simp [results, Try.results44, go_sem, *]) rfl (HPOST.out _ U a' c' _ ?_ ?_ ?_ ?_)
    · exact bSet3 HB3.out (Nat.le_succ _) _ _ _ _ _ _
    · rfl
    · exact (HS3.out.set3 (Or.inr ⟨Nat.le_succ _, by rw [HSZ.out]; omega⟩) _ _ _ _ _ _).narrow fun i h => Or.inl h
    · exact fun _ => rfl

end Go.Proofs.Ythmcgpppacodeaa
