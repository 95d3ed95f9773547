/-
  Definitions: a copy of one (the laws' toDef).
-/
import Derived.Test.YteeafpnjpcgfaaaGreatDfB
import Derived.Test.YteeafpnjpcgfaaaGreatNext
namespace Go.Proofs.YteeafpnjpcgfaaaGreat
open Go.RowKit

theorem DBox.far {T : TypeId} {g : Nat} {k n k' n' : Int} {s s' : Value} {w : World} (h : DBox T g k n s k' n' s' w) {p : Addr} (hp : g ≠ p.block) (u : Value) : DBox T g k n s k' n' s' (w.setCell p u) := (Below.heap_setCell w p u g hp).trans h
theorem DBox.set1 {T : TypeId} {g : Nat} {k n k' n' x y : Int} {s s' z : Value} {w : World} (h : DBox T g k n s k' n' s' w) : DBox T g x y z k' n' s' (((w.setCell ⟨g, 0, none⟩ (.int .i64 x)).setCell ⟨g, 1, none⟩ (.int .i64 y)).setCell ⟨g, 2, none⟩ z) := by
  have := block_set (block_set (block_set h 0 (.int .i64 x)) 1 (.int .i64 y)) 2 z
  simp only [List.setIfInBounds_toArray, List.set_cons_zero, List.set_cons_succ] at this
  exact this
theorem DBox.set2 {T : TypeId} {g : Nat} {k n k' n' x y : Int} {s s' z : Value} {w : World} (h : DBox T g k n s k' n' s' w) : DBox T g k n s x y z (((w.setCell ⟨g, 3, none⟩ (.int .i64 x)).setCell ⟨g, 4, none⟩ (.int .i64 y)).setCell ⟨g, 5, none⟩ z) := by
  have := block_set (block_set (block_set h 3 (.int .i64 x)) 4 (.int .i64 y)) 5 z
  simp only [List.setIfInBounds_toArray, List.set_cons_zero, List.set_cons_succ] at this
  exact this
theorem dbox_new1 (T : TypeId) (w : World) (o : Obj) (k n : Int) (s : Value) (k' n' : Int) (s' : Value) : DBox T (w.heap.size + 1) k n s k' n' s' ((w.alloc o).alloc (.cells #[.int .i64 k, .int .i64 n, s, .int .i64 k', .int .i64 n', s'] T)) := by
  have h := DBox.new T (w.alloc o) k n s k' n' s'
  rwa [show (w.alloc o).heap.size = w.heap.size + 1 by simp] at h
theorem dbox_new2 (T : TypeId) (w : World) (o p : Obj) (k n : Int) (s : Value) (k' n' : Int) (s' : Value) : DBox T (w.heap.size + 1 + 1) k n s k' n' s' (((w.alloc o).alloc p).alloc (.cells #[.int .i64 k, .int .i64 n, s, .int .i64 k', .int .i64 n', s'] T)) := by
  have h := DBox.new T ((w.alloc o).alloc p) k n s k' n' s'
  rwa [show ((w.alloc o).alloc p).heap.size = w.heap.size + 1 + 1 by simp] at h
theorem dfree3 {T : TypeId} {g : Nat} {k n k' n' : Int} {s s' : Value} {w : World} (h : DBox T g k n s k' n' s' w) {q : Nat} (hp : g ≠ q) (a b c : Nat) (x y z : Value) : DBox T g k n s k' n' s' (((w.setCell ⟨q, a, none⟩ x).setCell ⟨q, b, none⟩ y).setCell ⟨q, c, none⟩ z) :=
  ((h.far (p := ⟨q, a, none⟩) hp _).far (p := ⟨q, b, none⟩) hp _).far (p := ⟨q, c, none⟩) hp _

theorem sl_set3 {w : World} {B g i j k : Nat} {l : List Tm} {v x y z : Value} (h : SlIn w B l v) (hg : g < B) : SlIn (((w.setCell ⟨g, i, none⟩ x).setCell ⟨g, j, none⟩ y).setCell ⟨g, k, none⟩ z) B l v :=
  ((h.setCell (p := ⟨g, i, none⟩) hg _).setCell (p := ⟨g, j, none⟩) hg _).setCell (p := ⟨g, k, none⟩) hg _

/-- What toDef leaves. -/
def ToDPost (w : World) (t u : Tm) (e : Ending) (w' : World) : Prop := ∃ a c a' c', e = .returned (.agg #[.int .i64 t.kind, .int .i64 t.num, .slice a t.kids.length c, .int .i64 u.kind, .int .i64 u.num, .slice a' u.kids.length c']) ∧ SlIn w' w.heap.size t.kids (.slice a t.kids.length c) ∧ SlIn w' w.heap.size u.kids (.slice a' u.kids.length c') ∧ Below w.heap.size w w'

set_option maxRecDepth 100000 in
set_option maxHeartbeats 1600000 in
theorem toDef_any (t u : Tm) (w : World) (s s' : Value) (h0 : sizes t.kids ≤ 1048576) (h1 : sizes u.kids ≤ 1048576) (hs : SlIn w 0 t.kids s) (hu : SlIn w 0 u.kids s') : Calls Tryz.prog 48 #[.agg #[.int .i64 t.kind, .int .i64 t.num, s, .int .i64 u.kind, .int .i64 u.num, s']] w (ToDPost w t u) := by
  obtain ⟨a, c, rfl⟩ := hs.form
  obtain ⟨a', c', rfl⟩ := hu.form
  have HP : Hid (∀ (a : Option Addr) (c : Nat) (a' : Option Addr) (c' : Nat) (w' : World), SlIn w' w.heap.size t.kids (.slice a t.kids.length c) → SlIn w' w.heap.size u.kids (.slice a' u.kids.length c') → Below w.heap.size w w' → ToDPost w t u (.returned (.agg #[.int .i64 t.kind, .int .i64 t.num, .slice a t.kids.length c, .int .i64 u.kind, .int .i64 u.num, .slice a' u.kids.length c'])) w') := tuck fun a c a' c' w' h1 h2 h3 => ⟨a, c, a', c', rfl, h1, h2, h3⟩
  generalize ToDPost w t u = post at *
  have HTT : Hid (∀ W, SlIn W 0 t.kids (.slice a t.kids.length c) → Calls Tryz.prog 10 #[.agg #[.int .i64 t.kind, .int .i64 t.num, .slice a t.kids.length c]] W (ToPostT W t)) := tuck fun W h => toT_any t W _ h0 ⟨_, rfl, h⟩
  have HTU : Hid (∀ W, SlIn W 0 u.kids (.slice a' u.kids.length c') → Calls Tryz.prog 10 #[.agg #[.int .i64 u.kind, .int .i64 u.num, .slice a' u.kids.length c']] W (ToPostT W u)) := tuck fun W h => toT_any u W _ h1 ⟨_, rfl, h⟩
  have HB := tuck (below3 w (.cells #[.int .i64 t.kind, .int .i64 t.num, .slice a t.kids.length c, .int .i64 u.kind, .int .i64 u.num, .slice a' u.kids.length c'] 78) (.cells #[.int .i64 0, .int .i64 0, .slice none 0 0, .int .i64 0, .int .i64 0, .slice none 0 0] 81) (.cells #[.int .i64 0, .int .i64 0, .slice none 0 0, .int .i64 0, .int .i64 0, .slice none 0 0] 81))
  have HD := tuck ((DBox.new 78 w t.kind t.num (.slice a t.kids.length c) u.kind u.num (.slice a' u.kids.length c')).below (below2 _ (.cells #[.int .i64 0, .int .i64 0, .slice none 0 0, .int .i64 0, .int .i64 0, .slice none 0 0] 81) (.cells #[.int .i64 0, .int .i64 0, .slice none 0 0, .int .i64 0, .int .i64 0, .slice none 0 0] 81)))
  have HR := tuck ((dbox_new1 81 w (.cells #[.int .i64 t.kind, .int .i64 t.num, .slice a t.kids.length c, .int .i64 u.kind, .int .i64 u.num, .slice a' u.kids.length c'] 78) 0 0 (.slice none 0 0) 0 0 (.slice none 0 0)).below (below1 _ (.cells #[.int .i64 0, .int .i64 0, .slice none 0 0, .int .i64 0, .int .i64 0, .slice none 0 0] 81)))
  have HO := tuck (dbox_new2 81 w (.cells #[.int .i64 t.kind, .int .i64 t.num, .slice a t.kids.length c, .int .i64 u.kind, .int .i64 u.num, .slice a' u.kids.length c'] 78) (.cells #[.int .i64 0, .int .i64 0, .slice none 0 0, .int .i64 0, .int .i64 0, .slice none 0 0] 81) 0 0 (.slice none 0 0) 0 0 (.slice none 0 0))
  have HS := tuck (hs.below HB.out)
  have HU := tuck hu
  clear hs hu
  go_enter Tryz.func48, Tryz.ntmps48
  go_wp2_with fail
  generalize ((w.alloc (.cells #[.int .i64 t.kind, .int .i64 t.num, .slice a t.kids.length c, .int .i64 u.kind, .int .i64 u.num, .slice a' u.kids.length c'] 78)).alloc (.cells #[.int .i64 0, .int .i64 0, .slice none 0 0, .int .i64 0, .int .i64 0, .slice none 0 0] 81)).alloc (.cells #[.int .i64 0, .int .i64 0, .slice none 0 0, .int .i64 0, .int .i64 0, .slice none 0 0] 81) = W0 at *
  refine (HTT.out _ HS.out).mono ?_
  rintro e w1 ⟨v1, rfl, ⟨s1, rfl, hin1⟩, hb1⟩
  obtain ⟨a1, c1, rfl⟩ := hin1.form
  have hz := HO.out.facts.1
  have HI1 := tuck (hin1.mono (show w.heap.size + 1 + 1 + 1 ≤ _ from hz))
  replace HB := tuck (bAfter HB.out hb1)
  replace HD := tuck (HD.out.below hb1)
  replace HR := tuck (HR.out.below hb1)
  replace HO := tuck (HO.out.below hb1)
  clear hin1 hb1 hz HS HTT
  obtain ⟨z0, p0, p1, p2, p3, p4, p5, pf⟩ := HD.out.facts
  obtain ⟨z2, q0, q1, q2, q3, q4, q5, qf⟩ := HO.out.facts
  go_wp2_with fail
  clear z0 p0 p1 p2 p3 p4 p5 pf z2 q0 q1 q2 q3 q4 q5 qf
  replace HD := tuck (dfree3 HD.out (q := w.heap.size + 1 + 1) (by omega) 0 1 2 (.int .i64 t.kind) (.int .i64 t.num) (.slice a1 t.kids.length c1))
  replace HR := tuck (dfree3 HR.out (q := w.heap.size + 1 + 1) (by omega) 0 1 2 (.int .i64 t.kind) (.int .i64 t.num) (.slice a1 t.kids.length c1))
  replace HO := tuck (HO.out.set1 (x := t.kind) (y := t.num) (z := .slice a1 t.kids.length c1))
  replace HB := tuck (bSet3 HB.out (show w.heap.size ≤ w.heap.size + 1 + 1 by omega) 0 1 2 (.int .i64 t.kind) (.int .i64 t.num) (.slice a1 t.kids.length c1))
  replace HI1 := tuck (((HI1.out.setCell (p := ⟨w.heap.size + 1 + 1, 0, none⟩) (Nat.lt_succ_self _) (.int .i64 t.kind)).setCell (p := ⟨w.heap.size + 1 + 1, 1, none⟩) (Nat.lt_succ_self _) (.int .i64 t.num)).setCell (p := ⟨w.heap.size + 1 + 1, 2, none⟩) (Nat.lt_succ_self _) (.slice a1 t.kids.length c1))
  generalize ((w1.setCell ⟨w.heap.size + 1 + 1, 0, none⟩ (.int .i64 t.kind)).setCell ⟨w.heap.size + 1 + 1, 1, none⟩ (.int .i64 t.num)).setCell ⟨w.heap.size + 1 + 1, 2, none⟩ (.slice a1 t.kids.length c1) = W1 at *
  refine (HTU.out _ (HU.out.below HB.out)).mono ?_
  rintro e w3 ⟨v3, rfl, ⟨s3, rfl, hin3⟩, hb3⟩
  obtain ⟨a3, c3, rfl⟩ := hin3.form
  have hz := HO.out.facts.1
  have HI3 := tuck (hin3.mono (show w.heap.size + 1 + 1 + 1 ≤ _ from hz))
  replace HI1 := tuck (HI1.out.below hb3)
  replace HB := tuck (bAfter HB.out hb3)
  replace HR := tuck (HR.out.below hb3)
  replace HO := tuck (HO.out.below hb3)
  clear hin3 hb3 hz HU HTU HD
  obtain ⟨z1, p0, p1, p2, p3, p4, p5, pf⟩ := HR.out.facts
  obtain ⟨z2, q0, q1, q2, q3, q4, q5, qf⟩ := HO.out.facts
  go_wp2_with fail
  refine bodyPost_ret (v := .agg #[.int .i64 t.kind, .int .i64 t.num, .slice a1 t.kids.length c1, .int .i64 u.kind, .int .i64 u.num, .slice a3 u.kids.length c3]) (by simp [results, Tryz.results48, go_sem, *]) rfl (HP.out a1 c1 a3 c3 _ ?_ ?_ ?_)
  · exact (sl_set3 (sl_set3 (sl_set3 HI1.out (by omega)) (by omega)) (by omega)).mono (by omega)
  · exact (sl_set3 (sl_set3 (sl_set3 HI3.out (by omega)) (by omega)) (by omega)).mono (by omega)
  · exact bSet3 (bSet3 (bSet3 HB.out (by omega) _ _ _ _ _ _) (by omega) _ _ _ _ _ _) (by omega) _ _ _ _ _ _

end Go.Proofs.YteeafpnjpcgfaaaGreat
