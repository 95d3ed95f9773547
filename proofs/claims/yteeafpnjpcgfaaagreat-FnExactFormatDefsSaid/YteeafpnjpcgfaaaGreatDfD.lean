/-
  Definitions: a copy of a list (the laws' toDefS), two lists compared (eqDef, eqDefS).
-/
import Derived.Test.YteeafpnjpcgfaaaGreatDfC
import Derived.Test.YteeafpnjpcgfaaaGreatLawT
namespace Go.Proofs.YteeafpnjpcgfaaaGreat
open Go.RowKit

theorem info_def : (Tryz.prog.info? 81).map (fun i => (i.zero, i.size, i.bytes)) = some (some (.agg #[.int .i64 0, .int .i64 0, .slice none 0 0, .int .i64 0, .int .i64 0, .slice none 0 0]), 6, 80) := by kernel_rfl

/-- The first k definitions of a list lie in the block g; the rest of it is whatever. -/
def FillD (g : Nat) (l : List (Tm × Tm)) (k : Nat) (w : World) : Prop :=
  ∃ cs : Array Value, w.heap[g]? = some (.cells cs 81 (0, 0)) ∧ cs.size = l.length * 6 ∧
    ∀ j (hj : j < l.length), j < k → ∃ s u, cs[j * 6]? = some (.int .i64 l[j].1.kind) ∧ cs[j * 6 + 1]? = some (.int .i64 l[j].1.num) ∧ cs[j * 6 + 2]? = some s ∧ cs[j * 6 + 3]? = some (.int .i64 l[j].2.kind) ∧ cs[j * 6 + 4]? = some (.int .i64 l[j].2.num) ∧ cs[j * 6 + 5]? = some u ∧ SlIn w (g + 1) l[j].1.kids s ∧ SlIn w (g + 1) l[j].2.kids u
theorem FillD.below {g k : Nat} {l : List (Tm × Tm)} {w w' : World} (h : FillD g l k w) (hb : Below w.heap.size w w') : FillD g l k w' := by
  obtain ⟨cs, h1, h2, h3⟩ := h
  refine ⟨cs, (hb.block g (block_of_cells h1).1).trans h1, h2, fun j hj hk => ?_⟩
  obtain ⟨s, u, c0, c1, c2, c3, c4, c5, c6, c7⟩ := h3 j hj hk
  exact ⟨s, u, c0, c1, c2, c3, c4, c5, c6.below hb, c7.below hb⟩
theorem FillD.room {g k : Nat} {l : List (Tm × Tm)} {w : World} (h : FillD g l k w) (hk : k < l.length) :
    ∃ u0 u1 u2 u3 u4 u5, w.cell? ⟨g, k * 6, none⟩ = some u0 ∧ w.cell? ⟨g, k * 6 + 1, none⟩ = some u1 ∧ w.cell? ⟨g, k * 6 + 2, none⟩ = some u2 ∧ w.cell? ⟨g, k * 6 + 3, none⟩ = some u3 ∧ w.cell? ⟨g, k * 6 + 4, none⟩ = some u4 ∧ w.cell? ⟨g, k * 6 + 5, none⟩ = some u5 ∧ (∀ i, w.frozen? ⟨g, i, none⟩ = false) ∧ g < w.heap.size := by
  obtain ⟨cs, h1, h2, -⟩ := h
  obtain ⟨b1, b2, b3⟩ := block_of_cells h1
  exact ⟨_, _, _, _, _, _, (b2 _).trans (Array.getElem?_eq_getElem (by omega)), (b2 _).trans (Array.getElem?_eq_getElem (by omega)), (b2 _).trans (Array.getElem?_eq_getElem (by omega)), (b2 _).trans (Array.getElem?_eq_getElem (by omega)), (b2 _).trans (Array.getElem?_eq_getElem (by omega)), (b2 _).trans (Array.getElem?_eq_getElem (by omega)), b3, b1⟩
theorem FillD.put {g k : Nat} {l : List (Tm × Tm)} {w : World} (h : FillD g l k w) (hk : k < l.length) {s u : Value} (hs : SlIn w (g + 1) l[k].1.kids s) (hu : SlIn w (g + 1) l[k].2.kids u) :
    FillD g l (k + 1) ((((((w.setCell ⟨g, k * 6, none⟩ (.int .i64 l[k].1.kind)).setCell ⟨g, k * 6 + 1, none⟩ (.int .i64 l[k].1.num)).setCell ⟨g, k * 6 + 2, none⟩ s).setCell ⟨g, k * 6 + 3, none⟩ (.int .i64 l[k].2.kind)).setCell ⟨g, k * 6 + 4, none⟩ (.int .i64 l[k].2.num)).setCell ⟨g, k * 6 + 5, none⟩ u) := by
  obtain ⟨cs, h1, h2, h3⟩ := h
  have key : ∀ {x : List Tm} {v : Value}, SlIn w (g + 1) x v → SlIn ((((((w.setCell ⟨g, k * 6, none⟩ (.int .i64 l[k].1.kind)).setCell ⟨g, k * 6 + 1, none⟩ (.int .i64 l[k].1.num)).setCell ⟨g, k * 6 + 2, none⟩ s).setCell ⟨g, k * 6 + 3, none⟩ (.int .i64 l[k].2.kind)).setCell ⟨g, k * 6 + 4, none⟩ (.int .i64 l[k].2.num)).setCell ⟨g, k * 6 + 5, none⟩ u) (g + 1) x v := fun h => sl_set3 (sl_set3 h (Nat.lt_succ_self g)) (Nat.lt_succ_self g)
  refine ⟨_, block_set (block_set (block_set (block_set (block_set (block_set h1 _ _) _ _) _ _) _ _) _ _) _ _, by simp [h2], fun j hj hk' => ?_⟩
  by_cases e : j = k
  · subst e
    refine ⟨s, u, ?_, ?_, ?_, ?_, ?_, ?_, key hs, key hu⟩ <;> (simp [Array.getElem?_setIfInBounds, h2]; try omega)
  · obtain ⟨s', u', c0, c1, c2, c3, c4, c5, c6, c7⟩ := h3 j hj (by omega)
    have hne : ∀ x y : Nat, x < 6 → y < 6 → k * 6 + x ≠ j * 6 + y := fun x y hx hy => by omega
    have hkeep : ∀ y : Nat, y < 6 → ((((((cs.setIfInBounds (k * 6) (.int .i64 l[k].1.kind)).setIfInBounds (k * 6 + 1) (.int .i64 l[k].1.num)).setIfInBounds (k * 6 + 2) s).setIfInBounds (k * 6 + 3) (.int .i64 l[k].2.kind)).setIfInBounds (k * 6 + 4) (.int .i64 l[k].2.num)).setIfInBounds (k * 6 + 5) u)[j * 6 + y]? = cs[j * 6 + y]? := fun y hy => by
      rw [Array.getElem?_setIfInBounds_ne (hne 5 y (by omega) hy), Array.getElem?_setIfInBounds_ne (hne 4 y (by omega) hy), Array.getElem?_setIfInBounds_ne (hne 3 y (by omega) hy), Array.getElem?_setIfInBounds_ne (hne 2 y (by omega) hy), Array.getElem?_setIfInBounds_ne (hne 1 y (by omega) hy), Array.getElem?_setIfInBounds_ne (show k * 6 ≠ j * 6 + y from hne 0 y (by omega) hy)]
    exact ⟨s', u', (hkeep 0 (by omega)).trans c0, (hkeep 1 (by omega)).trans c1, (hkeep 2 (by omega)).trans c2, (hkeep 3 (by omega)).trans c3, (hkeep 4 (by omega)).trans c4, (hkeep 5 (by omega)).trans c5, key c6, key c7⟩
theorem FillD.done {g cap : Nat} {l : List (Tm × Tm)} {w : World} (h : FillD g l l.length w) (hl : l.length ≤ maxLen) : DfIn w g l (.slice (some ⟨g, 0, none⟩) l.length cap) := by
  obtain ⟨cs, h1, h2, h3⟩ := h
  obtain ⟨b1, b2, b3⟩ := block_of_cells h1
  refine ⟨_, _, g, 0, rfl, hl, fun _ => ⟨rfl, Nat.le_refl _, b1⟩, fun j hj => ?_⟩
  obtain ⟨s, u, c0, c1, c2, c3, c4, c5, c6, c7⟩ := h3 j hj hj
  rw [Nat.zero_add]
  exact ⟨s, u, (b2 _).trans c0, (b2 _).trans c1, (b2 _).trans c2, (b2 _).trans c3, (b2 _).trans c4, (b2 _).trans c5, c6.mono (by omega), c7.mono (by omega)⟩

/-- What toDefS leaves: a copy in new blocks. -/
def ToDsPost (w : World) (l : List (Tm × Tm)) (e : Ending) (w' : World) : Prop := ∃ a c, e = .returned (.slice a l.length c) ∧ DfIn w' w.heap.size l (.slice a l.length c) ∧ Below w.heap.size w w'

set_option maxRecDepth 100000 in
set_option maxHeartbeats 1600000 in
theorem toDefS_any (l : List (Tm × Tm)) (w : World) (v : Value) (hsz : dsizes l ≤ 1048576) (hin : DfIn w 0 l v) : Calls Tryz.prog 20 #[v] w (ToDsPost w l) := by
  obtain ⟨a, cap, b, o, rfl, hl, hp, hc⟩ := hin
  have hls := dsizes_len l
  have HP := tuck hp
  have HC := tuck hc
  have HSZ := tuck hsz
  have hlen : l.length ≤ 1048576 := by omega
  clear hp hc hl hls hsz
  obtain ⟨i0, hi, hz0, hz1, hz2⟩ := info_parts info_def
  have hmk : ∀ W : World, (Instr.makeSlice 43 (.int .i64 (l.length : Int)) (.int .i64 (l.length : Int))).run Tryz.prog W = .ok (.slice (some ⟨W.heap.size, 0, none⟩) l.length l.length) (W.alloc (.cells (madeCells #[.int .i64 0, .int .i64 0, .slice none 0 0, .int .i64 0, .int .i64 0, .slice none 0 0] (l.length * 6)) 81)) := fun W => by
    have h := run_make (P := Tryz.prog) W 43 81 i0 _ Tryz.underlying43 hi hz0 .i64 .i64 (l.length : Int) (l.length : Int) (by omega) (Int.le_refl _) (by rw [hz2]; omega) (by omega)
    rw [hz1] at h
    simpa [Value.cells] using h
  clear hi hz0 hz1 hz2
  go_enter Tryz.func20, Tryz.ntmps20
  go_wp2
  clear hmk
  go_loopw [4] (fun i wr => ∃ k : Nat, k ≤ l.length ∧ i = .int .i64 k ∧ Below w.heap.size w wr ∧ FillD w.heap.size l k wr) (fun i _ => l.length - (intOf i).toNat)
  case atStart =>
    refine ⟨0, Nat.zero_le _, rfl, below1 _ _, ?_⟩
    exact ⟨_, heap_new _ _, size_madeCells _ _, fun j _ h => absurd h (Nat.not_lt_zero _)⟩
  case round =>
    obtain ⟨k, hk, rfl, hb, hf⟩ := hrel
    by_cases hlt : k < l.length
    · have hlti : ((k : Int) < (l.length : Int)) := by omega
      obtain ⟨rfl, -, hbw⟩ := HP.out (by omega)
      obtain ⟨s, u, c0, c1, c2, c3, c4, c5, hs, hu⟩ := HC.out k hlt
      have hcc : ∀ j, wr.cell? ⟨b, j, none⟩ = w.cell? ⟨b, j, none⟩ := fun j => hb.cell (p := ⟨b, j, none⟩) hbw
      rw [← hcc] at c0 c1 c2 c3 c4 c5
      have HB := tuck hb
      have HF := tuck hf
      have hg1 := dsizes_get hlt
      have HCL := tuck (toDef_any l[k].1 l[k].2 wr s u (by have := HSZ.out; omega) (by have := HSZ.out; omega) (hs.below hb) (hu.below hb))
      have HPUT := tuck (fun w' s u => FillD.put (g := w.heap.size) (k := k) (l := l) (w := w') (hk := hlt) (s := s) (u := u))
      have HG := tuck (block_of_cells hf.choose_spec.1).1
      clear hb hf hs hu hcc hg1
      generalize l[k] = x at *
      obtain ⟨x1, x2⟩ := x
      simp only at HCL HPUT c0 c1 c3 c4
      go_wp2_with fail
      refine HCL.out.mono ?_
      rintro e w' ⟨a1, k1, a2, k2, rfl, hi1, hi2, hb'⟩
      have hf' := HF.out.below hb'
      obtain ⟨u0, u1, u2, u3, u4, u5, d0, d1, d2, d3, d4, d5, df, -⟩ := hf'.room hlt
      have HF' := tuck hf'
      have HI1 := tuck hi1
      have HI2 := tuck hi2
      have HB' := tuck hb'
      clear hf' hi1 hi2 hb' c0 c1 c2 c3 c4 c5
      go_wp2_with fail
      go_roundw
      case rel =>
        refine ⟨k + 1, by omega, by go_num, ?_, HPUT.out w' _ _ HF'.out (HI1.out.mono HG.out) (HI2.out.mono HG.out)⟩
        exact bSet3 (bSet3 (bAfter HB.out HB'.out) (Nat.le_refl _) _ _ _ _ _ _) (Nat.le_refl _) _ _ _ _ _ _
      case measure => simp [intOf]; omega
    · have hge2 : ¬ ((k : Int) < (l.length : Int)) := by omega
      have HB := tuck hb
      have HF := tuck hf
      clear hb hf
      go_wp2
      go_ret
      have e : k = l.length := by omega
      subst e
      exact ⟨_, _, rfl, HF.out.done (by unfold maxLen; omega), HB.out⟩

set_option maxRecDepth 100000 in
theorem eqDef_any (t u : Tm) (w : World) (s s' r r' : Value) (h1 : SlIn w 0 t.kids s) (h2 : SlIn w 0 u.kids s') (h3 : SlIn w 0 t.kids r) (h4 : SlIn w 0 u.kids r') : Calls Tryz.prog 51 #[.agg #[.int .i64 t.kind, .int .i64 t.num, s, .int .i64 u.kind, .int .i64 u.num, s'], .agg #[.int .i64 t.kind, .int .i64 t.num, r, .int .i64 u.kind, .int .i64 u.num, r']] w (EqPost w true) := by
  have HET : Hid (∀ (W : World) (v1 v2 : Value), TmIn W 0 t v1 → TmIn W 0 t v2 → Calls Tryz.prog 12 #[v1, v2] W (EqPost W true)) := tuck fun W v1 v2 h1 h2 => by have := eqT_any t t W v1 v2 h1 h2; rwa [same_self] at this
  have HEU : Hid (∀ (W : World) (v1 v2 : Value), TmIn W 0 u v1 → TmIn W 0 u v2 → Calls Tryz.prog 12 #[v1, v2] W (EqPost W true)) := tuck fun W v1 v2 h1 h2 => by have := eqT_any u u W v1 v2 h1 h2; rwa [same_self] at this
  obtain ⟨a, c, rfl⟩ := h1.form
  obtain ⟨a', c', rfl⟩ := h2.form
  obtain ⟨d, f, rfl⟩ := h3.form
  obtain ⟨d', f', rfl⟩ := h4.form
  have HD := tuck ((DBox.new 81 w t.kind t.num (.slice a t.kids.length c) u.kind u.num (.slice a' u.kids.length c')).below (below1 _ (.cells #[.int .i64 t.kind, .int .i64 t.num, .slice d t.kids.length f, .int .i64 u.kind, .int .i64 u.num, .slice d' u.kids.length f'] 81)))
  have HE := tuck (dbox_new1 81 w (.cells #[.int .i64 t.kind, .int .i64 t.num, .slice a t.kids.length c, .int .i64 u.kind, .int .i64 u.num, .slice a' u.kids.length c'] 81) t.kind t.num (.slice d t.kids.length f) u.kind u.num (.slice d' u.kids.length f'))
  have HB := tuck (below2 w (.cells #[.int .i64 t.kind, .int .i64 t.num, .slice a t.kids.length c, .int .i64 u.kind, .int .i64 u.num, .slice a' u.kids.length c'] 81) (.cells #[.int .i64 t.kind, .int .i64 t.num, .slice d t.kids.length f, .int .i64 u.kind, .int .i64 u.num, .slice d' u.kids.length f'] 81))
  have H1 := tuck h1
  have H2 := tuck h2
  have H3 := tuck h3
  have H4 := tuck h4
  clear h1 h2 h3 h4
  go_enter Tryz.func51, Tryz.ntmps51
  go_wp2_with fail
  generalize (w.alloc (.cells #[.int .i64 t.kind, .int .i64 t.num, .slice a t.kids.length c, .int .i64 u.kind, .int .i64 u.num, .slice a' u.kids.length c'] 81)).alloc (.cells #[.int .i64 t.kind, .int .i64 t.num, .slice d t.kids.length f, .int .i64 u.kind, .int .i64 u.num, .slice d' u.kids.length f'] 81) = W0 at *
  refine (HET.out _ _ _ ⟨_, rfl, H1.out.below HB.out⟩ ⟨_, rfl, H3.out.below HB.out⟩).mono ?_
  rintro e w1 ⟨rfl, hb⟩
  replace HB := tuck (bAfter HB.out hb)
  replace HD := tuck (HD.out.below hb)
  replace HE := tuck (HE.out.below hb)
  clear hb
  obtain ⟨z1, p0, p1, p2, p3, p4, p5, pf⟩ := HD.out.facts
  obtain ⟨z2, q0, q1, q2, q3, q4, q5, qf⟩ := HE.out.facts
  go_wp2_with fail
  clear z1 p0 p1 p2 p3 p4 p5 pf z2 q0 q1 q2 q3 q4 q5 qf
  refine (HEU.out _ _ _ ⟨_, rfl, H2.out.below HB.out⟩ ⟨_, rfl, H4.out.below HB.out⟩).mono ?_
  rintro e w2 ⟨rfl, hb⟩
  replace HB := tuck (bAfter HB.out hb)
  clear hb
  go_wp2_with fail
  go_ret
  exact ⟨rfl, HB.out⟩

set_option maxRecDepth 100000 in
theorem eqDefS_any (l : List (Tm × Tm)) (w : World) (v1 v2 : Value) (hl : l.length ≤ 1048576) (h1 : DfIn w 0 l v1) (h2 : DfIn w 0 l v2) : Calls Tryz.prog 22 #[v1, v2] w (EqPost w true) := by
  obtain ⟨a, cap, b, o, rfl, -, hp, hc⟩ := h1
  obtain ⟨a', cap', b', o', rfl, -, hp', hc'⟩ := h2
  have HP := tuck hp
  have HC := tuck hc
  have HP' := tuck hp'
  have HC' := tuck hc'
  clear hp hc hp' hc'
  have hll : ((l.length : Int) != (l.length : Int)) = false := by simp
  go_enter Tryz.func22, Tryz.ntmps22
  go_wp2
  go_loopw [5] (fun i wr => ∃ q : Nat, q ≤ l.length ∧ i = .int .i64 q ∧ Below w.heap.size w wr) (fun i _ => l.length - (intOf i).toNat)
  case atStart => exact ⟨0, Nat.zero_le _, rfl, Below.refl _ _⟩
  case round =>
    obtain ⟨q, hq, rfl, hb⟩ := hrel
    by_cases hlt : q < l.length
    · have hlti : ((q : Int) < (l.length : Int)) := by omega
      have hqi : (0 : Int) ≤ (q : Int) := by omega
      obtain ⟨rfl, -, hbw⟩ := HP.out (by omega)
      obtain ⟨rfl, -, hbw'⟩ := HP'.out (by omega)
      obtain ⟨s, u, c0, c1, c2, c3, c4, c5, hs, hu⟩ := HC.out q hlt
      obtain ⟨r, r', d0, d1, d2, d3, d4, d5, hr, hr'⟩ := HC'.out q hlt
      have hcc : ∀ j, wr.cell? ⟨b, j, none⟩ = w.cell? ⟨b, j, none⟩ := fun j => hb.cell (p := ⟨b, j, none⟩) hbw
      have hdd : ∀ j, wr.cell? ⟨b', j, none⟩ = w.cell? ⟨b', j, none⟩ := fun j => hb.cell (p := ⟨b', j, none⟩) hbw'
      rw [← hcc] at c0 c1 c2 c3 c4 c5
      rw [← hdd] at d0 d1 d2 d3 d4 d5
      have HB := tuck hb
      have HCL := tuck (eqDef_any l[q].1 l[q].2 wr.drew s u r r' (hs.below hb.drew) (hu.below hb.drew) (hr.below hb.drew) (hr'.below hb.drew))
      clear hb hs hu hr hr' hcc hdd
      generalize l[q] = x at *
      obtain ⟨x1, x2⟩ := x
      simp only at HCL c0 c1 c3 c4 d0 d1 d3 d4
      go_wp2_with fail
      go_still_tail 8, (by kernel_rfl)
      change wpList _ _ _ _ _ wr.drew
      go_wp2_with (go_at_call 51; refine HCL.out.mono ?_; rintro e w2 ⟨rfl, hb2⟩)
      have HB2 := tuck (bAfter HB.out.drew hb2)
      clear hb2 HB c0 c1 c2 c3 c4 c5 d0 d1 d2 d3 d4 d5
      go_wp2
      go_roundw
      case rel => exact ⟨q + 1, by omega, by go_num, HB2.out⟩
      case measure => simp [intOf]; omega
    · have hge2 : ¬ ((q : Int) < (l.length : Int)) := by omega
      have HB := tuck hb
      clear hb
      go_wp2
      go_ret
      exact ⟨rfl, HB.out⟩

end Go.Proofs.YteeafpnjpcgfaaaGreat
