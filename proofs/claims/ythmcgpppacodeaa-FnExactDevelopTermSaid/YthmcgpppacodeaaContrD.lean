/-
  impl.contract: the contractum of a redex.
-/
import Derived.Test.YthmcgpppacodeaaContrC
namespace Go.Proofs.Ythmcgpppacodeaa
open Go.RowKit

/-- X and the blocks laid from w on, up to n. -/
def With (X : Nat → Prop) (w : World) (n : Nat) : Nat → Prop := fun i => X i ∨ (w.heap.size ≤ i ∧ i < n)
theorem With.lt {X : Nat → Prop} {w W : World} (hX : ∀ i, X i → i < w.heap.size) (hb : w.heap.size ≤ W.heap.size) : ∀ i, With X w W.heap.size i → i < W.heap.size := fun i h => by
  rcases h with h | h
  · have := hX i h; omega
  · exact h.2
theorem SlX.widen {w W : World} {X : Nat → Prop} {l : List Tm} {v : Value} (h : SlX w X l v) (hb : Below w.heap.size w W) (n : Nat) : SlX W (With X w n) l v :=
  h.to fun p u hn hc => ⟨fun hx => by
    rcases hx with hx | hx
    · exact hn hx
    · have := World.block_lt_of_cell? w p hc; omega, (hb.cell (World.block_lt_of_cell? w p hc)).trans hc⟩
theorem SlX.narrow {w : World} {X Y : Nat → Prop} {l : List Tm} {v : Value} (h : SlX w Y l v) (hXY : ∀ i, X i → Y i) : SlX w X l v :=
  h.to fun _ _ hn hc => ⟨fun hx => hn (hXY _ hx), hc⟩
theorem SlX.set3 {w : World} {X : Nat → Prop} {l : List Tm} {v : Value} (h : SlX w X l v) {g : Nat} (hg : X g) (i j k : Nat) (x y z : Value) : SlX (((w.setCell ⟨g, i, none⟩ x).setCell ⟨g, j, none⟩ y).setCell ⟨g, k, none⟩ z) X l v :=
  ((h.set (q := ⟨g, i, none⟩) hg _).set (q := ⟨g, j, none⟩) hg _).set (q := ⟨g, k, none⟩) hg _

/-- The same with the form laid open. -/
theorem ContrPost.open {X : Nat → Prop} {w w' : World} {P : Prop} {T : Tm} {e : Ending} (h : ContrPost X w P T e w') : ∃ (U : Tm) (a : Option Addr) (c : Nat), e = .returned (.tuple #[.agg #[.int .i64 U.kind, .int .i64 U.num, .slice a U.kids.length c], .bool (tr P)]) ∧ Below w.heap.size w w' ∧ SlX w' X U.kids (.slice a U.kids.length c) ∧ (P → U = T) := by
  obtain ⟨hb, U, s, rfl, hs, hU⟩ := h
  obtain ⟨a, c, rfl⟩ := hs.form
  exact ⟨U, a, c, rfl, hb, hs, hU⟩

set_option maxRecDepth 100000 in
theorem ruleFunc_any (F : FuncId) (hcf : ∀ (args : Array Value) (w : World), (callFunc F args).run Try.prog w = .ok (.enter F args) w) (t : Tm) (P : Prop) (T : Tm) (w : World) (X : Nat → Prop) (hX : ∀ i, X i → i < w.heap.size) (s : Value) (hs : SlX w X t.kids s)
    (hF : ∀ (w' : World) (X' : Nat → Prop), (∀ i, X' i → i < w'.heap.size) → SlX w' X' t.kids s → Calls Try.prog F #[.agg #[.int .i64 t.kind, .int .i64 t.num, s]] w' (ContrPost X' w' P T)) :
    Calls Try.prog 134 #[.func (.func F) #[] #[], .agg #[.int .i64 t.kind, .int .i64 t.num, s]] w (ContrPost X w P T) := by
  obtain ⟨a, c, rfl⟩ := hs.form
  have hb2 := below2 w (.cells #[.int .i64 t.kind, .int .i64 t.num, .slice a t.kids.length c] 28) (.cells #[.int .i64 0, .int .i64 0, .slice none 0 0] 28)
  have HV1 := tuck (var_new1 w (.cells #[.int .i64 t.kind, .int .i64 t.num, .slice a t.kids.length c] 28) 0 0 (.slice none 0 0))
  have hsz : ((w.alloc (.cells #[.int .i64 t.kind, .int .i64 t.num, .slice a t.kids.length c] 28)).alloc (.cells #[.int .i64 0, .int .i64 0, .slice none 0 0] 28)).heap.size = w.heap.size + 2 := by simp
  have HF := tuck (hF _ (With X w ((w.alloc (.cells #[.int .i64 t.kind, .int .i64 t.num, .slice a t.kids.length c] 28)).alloc (.cells #[.int .i64 0, .int .i64 0, .slice none 0 0] 28)).heap.size) (With.lt hX hb2.size) (hs.widen hb2 _))
  have HP : Hid (∀ (U : Tm) (a' : Option Addr) (c' : Nat) w', Below w.heap.size w w' → SlX w' X U.kids (.slice a' U.kids.length c') → (P → U = T) → ContrPost X w P T (.returned (.tuple #[.agg #[.int .i64 U.kind, .int .i64 U.num, .slice a' U.kids.length c'], .bool (tr P)])) w') := tuck fun U a' c' w' h1 h2 h3 => ⟨h1, U, _, rfl, h2, h3⟩
  generalize ContrPost X w P T = post at *
  have HB2 := tuck hb2
  have HSZ := tuck hsz
  clear hF hs hb2 hsz
  go_enter Try.func134, Try.ntmps134
  go_wp2_with fail
  refine HF.out.mono ?_
  rintro e w1 hpost
  obtain ⟨U, a', c', rfl, hb1, hs1, hU⟩ := hpost.open
  obtain ⟨z1, r0, r1, r2, rf⟩ := (HV1.out.below hb1).facts
  have HS1 := tuck hs1
  have HU := tuck hU
  have HB1 := tuck (bAfter HB2.out hb1)
  clear hpost hb1 hs1 hU HF
  go_wp2_with fail
  refine bodyPost_ret (v := .tuple #[.agg #[.int .i64 U.kind, .int .i64 U.num, .slice a' U.kids.length c'], .bool (tr P)]) (by simp [results, Try.results134, go_sem, *]) rfl (HP.out U a' c' _ ?_ ?_ HU.out)
  · exact bSet3 HB1.out (Nat.le_succ _) _ _ _ _ _ _
  · exact (HS1.out.set3 (Or.inr ⟨Nat.le_succ _, by rw [HSZ.out]; omega⟩) _ _ _ _ _ _).narrow fun i h => Or.inl h

theorem rule0_any (w : World) : Calls Try.prog 76 #[.int .i64 0] w fun e w' => e = .returned (.tuple #[Value.nilIface, .bool false]) ∧ w' = w := by
  obtain ⟨post, hpost⟩ : ∃ post : Ending → World → Prop, post = fun e w' => e = .returned (.tuple #[Value.nilIface, .bool false]) ∧ w' = w := ⟨_, rfl⟩
  rw [← hpost]
  have HP : Hid (post (.returned (.tuple #[Value.nilIface, .bool false])) (w)) := tuck (by rw [hpost]; exact ⟨rfl, rfl⟩)
  clear hpost
  go_enter Try.func76, Try.ntmps76
  go_wp2_with fail
  exact HP.out

theorem rule1_any (w : World) : Calls Try.prog 76 #[.int .i64 1] w fun e w' => e = .returned (.tuple #[.iface 99 (.func (.func 94) #[] #[]), .bool true]) ∧ w' = w := by
  obtain ⟨post, hpost⟩ : ∃ post : Ending → World → Prop, post = fun e w' => e = .returned (.tuple #[.iface 99 (.func (.func 94) #[] #[]), .bool true]) ∧ w' = w := ⟨_, rfl⟩
  rw [← hpost]
  have HP : Hid (post (.returned (.tuple #[.iface 99 (.func (.func 94) #[] #[]), .bool true])) (w)) := tuck (by rw [hpost]; exact ⟨rfl, rfl⟩)
  clear hpost
  go_enter Try.func76, Try.ntmps76
  go_wp2_with fail
  exact HP.out

theorem rule3_any (w : World) : Calls Try.prog 76 #[.int .i64 3] w fun e w' => e = .returned (.tuple #[.iface 99 (.func (.func 95) #[] #[]), .bool true]) ∧ w' = w := by
  obtain ⟨post, hpost⟩ : ∃ post : Ending → World → Prop, post = fun e w' => e = .returned (.tuple #[.iface 99 (.func (.func 95) #[] #[]), .bool true]) ∧ w' = w := ⟨_, rfl⟩
  rw [← hpost]
  have HP : Hid (post (.returned (.tuple #[.iface 99 (.func (.func 95) #[] #[]), .bool true])) (w)) := tuck (by rw [hpost]; exact ⟨rfl, rfl⟩)
  clear hpost
  go_enter Try.func76, Try.ntmps76
  go_wp2_with fail
  exact HP.out

theorem rule2_any (w : World) : Calls Try.prog 76 #[.int .i64 2] w fun e w' => e = .returned (.tuple #[.iface 101 (.slice (some ⟨w.heap.size, 0, none⟩) 1 1), .bool true]) ∧ w' = w.alloc (.cells #[.int .i64 1] 3) := by
  obtain ⟨post, hpost⟩ : ∃ post : Ending → World → Prop, post = fun e w' => e = .returned (.tuple #[.iface 101 (.slice (some ⟨w.heap.size, 0, none⟩) 1 1), .bool true]) ∧ w' = w.alloc (.cells #[.int .i64 1] 3) := ⟨_, rfl⟩
  rw [← hpost]
  have HP : Hid (post (.returned (.tuple #[.iface 101 (.slice (some ⟨w.heap.size, 0, none⟩) 1 1), .bool true])) (w.alloc (.cells #[.int .i64 1] 3))) := tuck (by rw [hpost]; exact ⟨rfl, rfl⟩)
  clear hpost
  go_enter Try.func76, Try.ntmps76
  go_wp2_with fail
  exact HP.out

theorem rule4_any (w : World) : Calls Try.prog 76 #[.int .i64 4] w fun e w' => e = .returned (.tuple #[.iface 101 (.slice (some ⟨w.heap.size, 0, none⟩) 1 1), .bool true]) ∧ w' = w.alloc (.cells #[.int .i64 2] 3) := by
  obtain ⟨post, hpost⟩ : ∃ post : Ending → World → Prop, post = fun e w' => e = .returned (.tuple #[.iface 101 (.slice (some ⟨w.heap.size, 0, none⟩) 1 1), .bool true]) ∧ w' = w.alloc (.cells #[.int .i64 2] 3) := ⟨_, rfl⟩
  rw [← hpost]
  have HP : Hid (post (.returned (.tuple #[.iface 101 (.slice (some ⟨w.heap.size, 0, none⟩) 1 1), .bool true])) (w.alloc (.cells #[.int .i64 2] 3))) := tuck (by rw [hpost]; exact ⟨rfl, rfl⟩)
  clear hpost
  go_enter Try.func76, Try.ntmps76
  go_wp2_with fail
  exact HP.out

theorem rule5_any (w : World) : Calls Try.prog 76 #[.int .i64 5] w fun e w' => e = .returned (.tuple #[.iface 101 (.slice (some ⟨w.heap.size, 0, none⟩) 2 2), .bool true]) ∧ w' = w.alloc (.cells #[.int .i64 0, .int .i64 1] 3) := by
  obtain ⟨post, hpost⟩ : ∃ post : Ending → World → Prop, post = fun e w' => e = .returned (.tuple #[.iface 101 (.slice (some ⟨w.heap.size, 0, none⟩) 2 2), .bool true]) ∧ w' = w.alloc (.cells #[.int .i64 0, .int .i64 1] 3) := ⟨_, rfl⟩
  rw [← hpost]
  have HP : Hid (post (.returned (.tuple #[.iface 101 (.slice (some ⟨w.heap.size, 0, none⟩) 2 2), .bool true])) (w.alloc (.cells #[.int .i64 0, .int .i64 1] 3))) := tuck (by rw [hpost]; exact ⟨rfl, rfl⟩)
  clear hpost
  go_enter Try.func76, Try.ntmps76
  go_wp2_with fail
  exact HP.out

theorem rule6_any (w : World) : Calls Try.prog 76 #[.int .i64 6] w fun e w' => e = .returned (.tuple #[.iface 101 (.slice (some ⟨w.heap.size, 0, none⟩) 2 2), .bool true]) ∧ w' = w.alloc (.cells #[.int .i64 0, .int .i64 2] 3) := by
  obtain ⟨post, hpost⟩ : ∃ post : Ending → World → Prop, post = fun e w' => e = .returned (.tuple #[.iface 101 (.slice (some ⟨w.heap.size, 0, none⟩) 2 2), .bool true]) ∧ w' = w.alloc (.cells #[.int .i64 0, .int .i64 2] 3) := ⟨_, rfl⟩
  rw [← hpost]
  have HP : Hid (post (.returned (.tuple #[.iface 101 (.slice (some ⟨w.heap.size, 0, none⟩) 2 2), .bool true])) (w.alloc (.cells #[.int .i64 0, .int .i64 2] 3))) := tuck (by rw [hpost]; exact ⟨rfl, rfl⟩)
  clear hpost
  go_enter Try.func76, Try.ntmps76
  go_wp2_with fail
  exact HP.out

end Go.Proofs.Ythmcgpppacodeaa
