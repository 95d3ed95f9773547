/-
  RedJ.
-/
import Derived.Test.YteeafpnjpcgfaaaGreatB47
import Derived.Test.YteeafpnjpcgfaaaGreatB48
namespace Go.Proofs.YteeafpnjpcgfaaaGreat
open Go.RowKit
theorem RedN.to {g : Nat} {rl mo : Bool} {fuel steps : Nat} {t : Tm} {code code' : Int} {M N : Nat → Prop} {w w' : World} (h : RedN g rl mo fuel steps t code M N w) (hk : ∀ l v, SlX w (Or2 M N) l v → SlX w' (Or2 M N) l v)
  (hs : ∀ (s : Value) (found : Bool) (xk xn : Int) (xs : Value) (qs : List (Tm × Value × Nat)), StkAt g 12 139 (redCells rl mo fuel steps t.kind t.num s code found xk xn xs) qs M w → StkAt g 12 139 (redCells rl mo fuel steps t.kind t.num s code' found xk xn xs) qs M w') : RedN g rl mo fuel steps t code' M N w' := by
 obtain ⟨s, found, xk, xn, xs, qs, h1, h2, h3⟩ := h
 refine ⟨s, found, xk, xn, xs, qs, hs _ _ _ _ _ _ h1, hk _ _ h2, ?_⟩
 cases hf : t.find rl mo with
 | none => rw [hf] at h3; exact h3
 | some y =>
  obtain ⟨p, x⟩ := y
  rw [hf] at h3
  exact ⟨h3.1, h3.2.1, h3.2.2.1, hk _ _ h3.2.2.2.1, h3.2.2.2.2.to hk⟩
theorem RedN.own {g : Nat} {rl mo : Bool} {fuel steps : Nat} {t : Tm} {code : Int} {M N : Nat → Prop} {w : World} (h : RedN g rl mo fuel steps t code M N w) : M g ∧ ∀ i, M i → g ≤ i ∧ i < w.heap.size := by
 obtain ⟨s, found, xk, xn, xs, qs, h1, h2, h3⟩ := h
 exact ⟨h1.own, h1.lt⟩
theorem RedN.below {g : Nat} {rl mo : Bool} {fuel steps : Nat} {t : Tm} {code : Int} {M N : Nat → Prop} {w w' : World} (h : RedN g rl mo fuel steps t code M N w) (hb : Below w.heap.size w w') : RedN g rl mo fuel steps t code M N w' :=
 h.to (fun _ _ h => h.below hb) fun _ _ _ _ _ _ h => h.below hb
theorem RedN.code {g : Nat} {rl mo : Bool} {fuel steps : Nat} {t : Tm} {code : Int} {M N : Nat → Prop} {w : World} (h : RedN g rl mo fuel steps t code M N w) (c : Int) : RedN g rl mo fuel steps t c M N (w.setCell ⟨g, 7, none⟩ (.int .i64 c)) :=
 h.to (fun _ _ h' => h'.set (q := ⟨g, 7, none⟩) (Or.inl h.own.1) _) fun _ _ _ _ _ _ h' => h'.setOther (j := 7) (by decide) (.int .i64 c)
theorem RedN.facts {g : Nat} {rl mo : Bool} {fuel steps : Nat} {t : Tm} {code : Int} {M N : Nat → Prop} {w : World} (h : RedN g rl mo fuel steps t code M N w) : g < w.heap.size ∧ w.cell? ⟨g, 2, none⟩ = some (.int .i64 fuel) ∧ w.cell? ⟨g, 3, none⟩ = some (.int .i64 steps) ∧ w.cell? ⟨g, 4, none⟩ = some (.int .i64 t.kind) ∧ w.cell? ⟨g, 5, none⟩ = some (.int .i64 t.num) ∧
  (∃ (a : Option Addr) (c : Nat), w.cell? ⟨g, 6, none⟩ = some (.slice a t.kids.length c) ∧ SlX w (Or2 M N) t.kids (.slice a t.kids.length c)) ∧ w.cell? ⟨g, 7, none⟩ = some (.int .i64 code) ∧ w.cell? ⟨g, 8, none⟩ = some (.bool (t.find rl mo).isSome) ∧ ∀ i, w.frozen? ⟨g, i, none⟩ = false := by
 obtain ⟨s, found, xk, xn, xs, qs, h1, h2, h3⟩ := h
 obtain ⟨a, c, rfl⟩ := h2.form
 obtain ⟨z, c0, c1, c2, c3, c4, c5, c6, c7, c8, c9, c10, c11, hf⟩ := red_cells h1
 refine ⟨z, c2, c3, c4, c5, ⟨a, c, c6, h2⟩, c7, ?_, hf⟩
 cases hf : t.find rl mo with
 | none => rw [hf] at h3; rw [c8, h3]; rfl
 | some y =>
  obtain ⟨p, x⟩ := y
  rw [hf] at h3
  rw [c8, h3.1]
  rfl
def StartN (rl mo : Bool) (fuel : Nat) (t : Tm) (N : Nat → Prop) (w : World) (e : Ending) (w' : World) : Prop := ∃ (g : Nat) (M : Nat → Prop), e = .returned (.pointer (some ⟨g, 0, none⟩)) ∧ Below w.heap.size w w' ∧ (∀ i, M i → w.heap.size ≤ i) ∧ RedN g rl mo fuel 0 t 0 M N w'
set_option maxRecDepth 100000 in
set_option maxHeartbeats 4000000 in
theorem startN_any (rl mo : Bool) (fuel : Nat) (t : Tm) (ht : t.Valid) (N : Nat → Prop) (w : World) (hN : ∀ i, N i → i < w.heap.size) (s : Value) (hs : SlX w N t.kids s) : Calls Tryz.prog 86 #[.agg #[.int .i64 t.kind, .int .i64 t.num, s], .int .i64 fuel, .agg #[.bool rl, .bool mo]] w (StartN rl mo fuel t N w) := by
 obtain ⟨a, c, rfl⟩ := hs.form
 have hst : StkAt (w.heap.size + 2) 12 139 (redCells rl mo fuel 0 t.kind t.num (.slice a t.kids.length c) 0 false 0 0 (.slice none 0 0)) [] (fun i => i = w.heap.size + 2 ∨ (Value.slice none 0 0).ownBlock = some i) (((w.alloc (.cells #[.int .i64 t.kind, .int .i64 t.num, .slice a t.kids.length c] 29)).alloc (.cells #[.bool rl, .bool mo] 134)).alloc (.cells #[.bool rl, .bool mo, .int .i64 fuel, .int .i64 0, .int .i64 t.kind, .int .i64 t.num, .slice a t.kids.length c, .int .i64 0, .bool false, .int .i64 0, .int .i64 0, .slice none 0 0, .slice none 0 0] 139)) :=
  ⟨by simp, .slice none 0 0, by have := heap_new ((w.alloc (.cells #[.int .i64 t.kind, .int .i64 t.num, .slice a t.kids.length c] 29)).alloc (.cells #[.bool rl, .bool mo] 134)) (.cells #[.bool rl, .bool mo, .int .i64 fuel, .int .i64 0, .int .i64 t.kind, .int .i64 t.num, .slice a t.kids.length c, .int .i64 0, .bool false, .int .i64 0, .int .i64 0, .slice none 0 0, .slice none 0 0] 139); simpa [redCells] using this, by simp [redCells], World.ownsRow_nil _ _ _ _, rfl⟩
 have hb3 := below3 w (.cells #[.int .i64 t.kind, .int .i64 t.num, .slice a t.kids.length c] 29) (.cells #[.bool rl, .bool mo] 134) (.cells #[.bool rl, .bool mo, .int .i64 fuel, .int .i64 0, .int .i64 t.kind, .int .i64 t.num, .slice a t.kids.length c, .int .i64 0, .bool false, .int .i64 0, .int .i64 0, .slice none 0 0, .slice none 0 0] 139)
 have hM : ∀ i, (i = w.heap.size + 2 ∨ (Value.slice none 0 0).ownBlock = some i) → w.heap.size ≤ i := fun i hi => by
  rcases hi with rfl | hi
  ·omega
  ·cases hi
 have hsx : SlX (((w.alloc (.cells #[.int .i64 t.kind, .int .i64 t.num, .slice a t.kids.length c] 29)).alloc (.cells #[.bool rl, .bool mo] 134)).alloc (.cells #[.bool rl, .bool mo, .int .i64 fuel, .int .i64 0, .int .i64 t.kind, .int .i64 t.num, .slice a t.kids.length c, .int .i64 0, .bool false, .int .i64 0, .int .i64 0, .slice none 0 0, .slice none 0 0] 139)) (Or2 (fun i => i = w.heap.size + 2 ∨ (Value.slice none 0 0).ownBlock = some i) N) t.kids (.slice a t.kids.length c) := hs.to fun p u hn hc => ⟨fun hx => hx.elim (fun hx => by have := hM _ hx; have := World.block_lt_of_cell? w p hc; omega) hn, (hb3.cell (World.block_lt_of_cell? w p hc)).trans hc⟩
 have HSK := tuck (seekN_any _ rl mo fuel 0 t ht 0 false 0 0 _ _ _ _ N _ (fun i hi => Nat.lt_of_lt_of_le (hN i hi) hb3.size) hst hsx)
 have HP : Hid (∀ w', SeekN (w.heap.size + 2) rl mo fuel 0 t 0 (fun i => i = w.heap.size + 2 ∨ (Value.slice none 0 0).ownBlock = some i) N (((w.alloc (.cells #[.int .i64 t.kind, .int .i64 t.num, .slice a t.kids.length c] 29)).alloc (.cells #[.bool rl, .bool mo] 134)).alloc (.cells #[.bool rl, .bool mo, .int .i64 fuel, .int .i64 0, .int .i64 t.kind, .int .i64 t.num, .slice a t.kids.length c, .int .i64 0, .bool false, .int .i64 0, .int .i64 0, .slice none 0 0, .slice none 0 0] 139)) (.returned (.tuple #[])) w' → StartN rl mo fuel t N w (.returned (.pointer (some ⟨w.heap.size + 2, 0, none⟩))) w') := tuck fun w' h => by
  obtain ⟨-, M', h1, h2⟩ := h
  exact ⟨_, M', rfl, h1.below hb3 hb3.size hM, h1.ge hb3.size hM, h2⟩
 generalize StartN rl mo fuel t N w = post at *
 clear hs hst hb3 hM hsx
 go_enter Tryz.func86, Tryz.ntmps86
 go_wp2_with fail
 refine HSK.out.mono ?_
 rintro e w4 hp4
 obtain rfl := hp4.1
 have HQ := tuck (HP.out _ hp4)
 clear hp4 HP HSK
 go_wp2_with fail
 exact HQ.out
end Go.Proofs.YteeafpnjpcgfaaaGreat
