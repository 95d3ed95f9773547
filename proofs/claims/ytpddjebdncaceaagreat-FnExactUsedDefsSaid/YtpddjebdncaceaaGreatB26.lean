/-
  DfD.
-/
import Derived.Test.YtpddjebdncaceaaGreatB18
import Derived.Test.YtpddjebdncaceaaGreatB25
namespace Go.Proofs.YtpddjebdncaceaaGreat
open Go.RowKit
theorem info_def : (Tryz.prog.info? 64).map (fun i => (i.zero, i.size, i.bytes)) = some (some (.agg #[.int .i64 0, .int .i64 0, .slice none 0 0, .int .i64 0, .int .i64 0, .slice none 0 0]), 6, 80) := by kernel_rfl
set_option maxRecDepth 100000 in
theorem eqDef_any (t u : Tm) (w : World) (s s' r r' : Value) (h1 : SlIn w 0 t.kids s) (h2 : SlIn w 0 u.kids s') (h3 : SlIn w 0 t.kids r) (h4 : SlIn w 0 u.kids r') : Calls Tryz.prog 39 #[.agg #[.int .i64 t.kind, .int .i64 t.num, s, .int .i64 u.kind, .int .i64 u.num, s'], .agg #[.int .i64 t.kind, .int .i64 t.num, r, .int .i64 u.kind, .int .i64 u.num, r']] w (EqPost w true) := by
 have HET : Hid (∀ (W : World) (v1 v2 : Value), TmIn W 0 t v1 → TmIn W 0 t v2 → Calls Tryz.prog 14 #[v1, v2] W (EqPost W true)) := tuck fun W v1 v2 h1 h2 => by have := eqT_any t t W v1 v2 h1 h2; rwa [same_self] at this
 have HEU : Hid (∀ (W : World) (v1 v2 : Value), TmIn W 0 u v1 → TmIn W 0 u v2 → Calls Tryz.prog 14 #[v1, v2] W (EqPost W true)) := tuck fun W v1 v2 h1 h2 => by have := eqT_any u u W v1 v2 h1 h2; rwa [same_self] at this
 obtain ⟨a, c, rfl⟩ := h1.form
 obtain ⟨a', c', rfl⟩ := h2.form
 obtain ⟨d, f, rfl⟩ := h3.form
 obtain ⟨d', f', rfl⟩ := h4.form
 have HD := tuck ((DBox.new 64 w t.kind t.num (.slice a t.kids.length c) u.kind u.num (.slice a' u.kids.length c')).below (below1 _ (.cells #[.int .i64 t.kind, .int .i64 t.num, .slice d t.kids.length f, .int .i64 u.kind, .int .i64 u.num, .slice d' u.kids.length f'] 64)))
 have HE := tuck (dbox_new1 64 w (.cells #[.int .i64 t.kind, .int .i64 t.num, .slice a t.kids.length c, .int .i64 u.kind, .int .i64 u.num, .slice a' u.kids.length c'] 64) t.kind t.num (.slice d t.kids.length f) u.kind u.num (.slice d' u.kids.length f'))
 have HB := tuck (below2 w (.cells #[.int .i64 t.kind, .int .i64 t.num, .slice a t.kids.length c, .int .i64 u.kind, .int .i64 u.num, .slice a' u.kids.length c'] 64) (.cells #[.int .i64 t.kind, .int .i64 t.num, .slice d t.kids.length f, .int .i64 u.kind, .int .i64 u.num, .slice d' u.kids.length f'] 64))
 have H1 := tuck h1
 have H2 := tuck h2
 have H3 := tuck h3
 have H4 := tuck h4
 clear h1 h2 h3 h4
 go_enter Tryz.func39, Tryz.ntmps39
 go_wp2_with fail
 generalize (w.alloc (.cells #[.int .i64 t.kind, .int .i64 t.num, .slice a t.kids.length c, .int .i64 u.kind, .int .i64 u.num, .slice a' u.kids.length c'] 64)).alloc (.cells #[.int .i64 t.kind, .int .i64 t.num, .slice d t.kids.length f, .int .i64 u.kind, .int .i64 u.num, .slice d' u.kids.length f'] 64) = W0 at *
 refine (HET.out _ _ _ ⟨_, rfl, H1.out.below HB.out⟩ ⟨_, rfl, H3.out.below HB.out⟩).mono ?_
 rintro e w1 ⟨rfl, hb⟩
 replace HB := tuck (bAfter HB.out hb)
 replace HD := tuck (HD.out.below hb)
 replace HE := tuck (HE.out.below hb)
 clear hb
 obtain ⟨z1, p0, p1, p2, p3, p4, p5, pf⟩ := HD.out.facts
 obtain ⟨z2, q0, q1, q2, q3, q4, q5, qf⟩ := HE.out.facts
 go_wp2_with fail
 clear z1 p0 p1 p2 p3 p4 p5 pf z2 q0 q1 q2 q3 q4 q5 qf
 refine (HEU.out _ _ _ ⟨_, rfl, H2.out.below HB.out⟩ ⟨_, rfl, H4.out.below HB.out⟩).mono ?_
 rintro e w2 ⟨rfl, hb⟩
 replace HB := tuck (bAfter HB.out hb)
 clear hb
 go_wp2_with fail
 go_ret
 exact ⟨rfl, HB.out⟩
set_option maxRecDepth 100000 in
theorem eqDefS_any (l : List (Tm × Tm)) (w : World) (v1 v2 : Value) (hl : l.length ≤ 1048576) (h1 : DfIn w 0 l v1) (h2 : DfIn w 0 l v2) : Calls Tryz.prog 13 #[v1, v2] w (EqPost w true) := by
 obtain ⟨a, cap, b, o, rfl, -, hp, hc⟩ := h1
 obtain ⟨a', cap', b', o', rfl, -, hp', hc'⟩ := h2
 have HP := tuck hp
 have HC := tuck hc
 have HP' := tuck hp'
 have HC' := tuck hc'
 clear hp hc hp' hc'
 have hll : ((l.length : Int) != (l.length : Int)) = false := by simp
 go_enter Tryz.func13, Tryz.ntmps13
 go_wp2
 go_loopw [5] (fun i wr => ∃ q : Nat, q ≤ l.length ∧ i = .int .i64 q ∧ Below w.heap.size w wr) (fun i _ => l.length - (intOf i).toNat)
 case atStart => exact ⟨0, Nat.zero_le _, rfl, Below.refl _ _⟩
 case round =>
  obtain ⟨q, hq, rfl, hb⟩ := hrel
  by_cases hlt : q < l.length
  ·have hlti : ((q : Int) < (l.length : Int)) := by omega
   have hqi : (0 : Int) ≤ (q : Int) := by omega
   obtain ⟨rfl, -, hbw⟩ := HP.out (by omega)
   obtain ⟨rfl, -, hbw'⟩ := HP'.out (by omega)
   obtain ⟨s, u, c0, c1, c2, c3, c4, c5, hs, hu⟩ := HC.out q hlt
   obtain ⟨r, r', d0, d1, d2, d3, d4, d5, hr, hr'⟩ := HC'.out q hlt
   have hcc : ∀ j, wr.cell? ⟨b, j, none⟩ = w.cell? ⟨b, j, none⟩ := fun j => hb.cell (p := ⟨b, j, none⟩) hbw
   have hdd : ∀ j, wr.cell? ⟨b', j, none⟩ = w.cell? ⟨b', j, none⟩ := fun j => hb.cell (p := ⟨b', j, none⟩) hbw'
   rw [← hcc] at c0 c1 c2 c3 c4 c5
   rw [← hdd] at d0 d1 d2 d3 d4 d5
   have HB := tuck hb
   have HCL := tuck (eqDef_any l[q].1 l[q].2 wr.drew s u r r' (hs.below hb.drew) (hu.below hb.drew) (hr.below hb.drew) (hr'.below hb.drew))
   clear hb hs hu hr hr' hcc hdd
   generalize l[q] = x at *
   obtain ⟨x1, x2⟩ := x
   simp only at HCL c0 c1 c3 c4 d0 d1 d3 d4
   go_wp2_with fail
   go_still_tail 8, (by kernel_rfl)
   change wpList _ _ _ _ _ wr.drew
   go_wp2_with (go_at_call 39; refine HCL.out.mono ?_; rintro e w2 ⟨rfl, hb2⟩)
   have HB2 := tuck (bAfter HB.out.drew hb2)
   clear hb2 HB c0 c1 c2 c3 c4 c5 d0 d1 d2 d3 d4 d5
   go_wp2
   go_roundw
   case rel => exact ⟨q + 1, by omega, by go_num, HB2.out⟩
   case measure => simp [intOf]; omega
  ·have hge2 : ¬ ((q : Int) < (l.length : Int)) := by omega
   have HB := tuck hb
   clear hb
   go_wp2
   go_ret
   exact ⟨rfl, HB.out⟩
end Go.Proofs.YtpddjebdncaceaaGreat
