/-
  SpecW.
-/
import Derived.Test.YtpddjebdncaceaaGreatR17
import Derived.Test.YtpddjebdncaceaaGreatR19
namespace Go.Proofs.YtpddjebdncaceaaGreat
open Go.RowKit
end Go.Proofs.YtpddjebdncaceaaGreat
namespace Go.Proofs.YtpddjebdncaceaaGreat
open Go.RowKit
set_option maxRecDepth 100000 in
theorem instI_any (t u : Tm) (w : World) (v v' : Value) (h : TmIn w 0 t v) (h' : TmIn w 0 u v') : Calls Tryz.prog 144 #[v, v'] w (ReplPost w (SubstOk t 0 u) (t.subst u 0 0)) := by
 obtain ⟨s, rfl, hs⟩ := h
 obtain ⟨a, cap, rfl⟩ := hs.form
 obtain ⟨su, rfl, hsu⟩ := h'
 obtain ⟨ua, ucap, rfl⟩ := hsu.form
 have HK : Hid (∀ w', Below w.heap.size w w' → Calls Tryz.prog 150 #[.agg #[.int .i64 t.kind, .int .i64 t.num, .slice a t.kids.length cap], .int .i64 0, .agg #[.int .i64 u.kind, .int .i64 u.num, .slice ua u.kids.length ucap]] w' (ReplPost w' (SubstOk t 0 u) (t.subst u 0 0))) := fun w' hb => substI_any t u 0 w' _ _ ⟨_, rfl, hs.below hb⟩ ⟨_, rfl, hsu.below hb⟩
 have HP := fun (W w' : World) (e : Ending) (h : ReplPost W (SubstOk t 0 u) (t.subst u 0 0) e w') => h.open
 have HQ := fun (w' : World) (U : Tm) (s : Value) (F : List Nat) (h1 : U = orZero (SubstOk t 0 u) (t.subst u 0 0)) (h2 : Below w.heap.size w w') (h3 : SlOwn w' U.kids s F) (h4 : F.Nodup) (h5 : ∀ g ∈ F, w.heap.size ≤ g ∧ g < w'.heap.size) => ReplPost.close (w := w) (w' := w') (P := SubstOk t 0 u) (T := t.subst u 0 0) (U := U) (s := s) h1 h2 h3 h4 h5
 replace HP := tuck HP
 replace HQ := tuck HQ
 generalize ReplPost w (SubstOk t 0 u) (t.subst u 0 0) = post at *
 clear hs hsu
 go_enter Tryz.func144, Tryz.ntmps144
 go_wp2_with fail
 refine (HK.out _ (below3 _ _ _ _)).mono ?_
 intro e w2 hpost
 obtain ⟨U, sa, sc, F, hU, rfl, hb, hs2, hn2, hF2⟩ := HP.out _ _ _ hpost
 have hv1 := (var_new2 w (.cells #[.int .i64 t.kind, .int .i64 t.num, .slice a t.kids.length cap] 34) (.cells #[.int .i64 u.kind, .int .i64 u.num, .slice ua u.kids.length ucap] 34) 0 0 (.slice none 0 0)).below hb
 obtain ⟨zv, v0, v1, v2, vf⟩ := hv1.facts
 have HB := tuck (bAfter (below3 _ _ _ _) hb)
 have HSO := tuck hs2
 have HN2 := tuck hn2
 have HF : Hid (∀ g ∈ F, w.heap.size + 1 + 1 + 1 ≤ g ∧ g < w2.heap.size) := tuck (fun g hg => ⟨by have := (hF2 g hg).1; simp at this; omega, (hF2 g hg).2⟩)
 clear hb hv1 hpost hs2 hn2 hF2
 have HUU := tuck hU
 clear hU HP HK
 generalize tr (SubstOk t 0 u) = cc at *
 go_wp2_with fail
 refine bodyPost_ret (v := .tuple #[.agg #[.int .i64 U.kind, .int .i64 U.num, .slice sa U.kids.length sc], .bool cc]) (by simp [results, Tryz.results144, go_sem, *]) rfl (HQ.out _ U _ F HUU.out ?_ ?_ HN2.out fun g hg => ?_)
 ·exact bSet3 HB.out (by omega) _ _ _ _ _ _
 ·exact HSO.out.set3 (fun h => by have := (HF.out _ h).1; omega) _ _ _ _ _ _
 ·rw [size_set3]
  have := HF.out g hg
  omega
end Go.Proofs.YtpddjebdncaceaaGreat
