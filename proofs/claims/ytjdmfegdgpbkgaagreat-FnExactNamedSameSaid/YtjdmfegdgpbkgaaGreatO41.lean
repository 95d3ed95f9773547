/-
  NmE.
-/
import Derived.Test.YtjdmfegdgpbkgaaGreatO38
import Derived.Test.YtjdmfegdgpbkgaaGreatO39
import Derived.Test.YtjdmfegdgpbkgaaGreatO40
namespace Go.Proofs.YtjdmfegdgpbkgaaGreat
open Go.RowKit
set_option linter.unusedVariables false
theorem newNamed_any (s : ByteArray) (L : List Int) (q : Option Addr) (w : World) (hn : NL w L (.pointer q)) : Calls Tryz.prog 49 #[.string s, .pointer q] w (fun e w' => e = .returned (.pointer (some ⟨w.heap.size, 0, none⟩)) ∧ Below w.heap.size w w' ∧ RW w.heap.size s L w' ∧ Cur w.heap.size s 0 0 (.iface 77 (.pointer (some ⟨w.heap.size, 0, none⟩))) w') := by
 have HN := tuck hn
 clear hn
 go_enter Tryz.func49, Tryz.ntmps49
 go_wp2
 go_ret
 have hb := below1 w (.cells #[.string s, .int .i64 0, .int .i64 0, .iface 77 (.pointer (some ⟨w.heap.size, 0, none⟩)), .pointer q] 85)
 obtain ⟨z, hc, -⟩ := block_of_cells (heap_new w (.cells #[.string s, .int .i64 0, .int .i64 0, .iface 77 (.pointer (some ⟨w.heap.size, 0, none⟩)), .pointer q] 85))
 exact ⟨rfl, hb, ⟨⟨hc 0, q, hc 4, HN.out.below hb⟩, _, _, heap_new _ _⟩, _, _, heap_new _ _, rfl, rfl, rfl, rfl⟩
theorem form_named (g : Nat) : FormOk (.iface 77 (.pointer (some ⟨g, 0, none⟩))) (.pointer (some ⟨g, 0, none⟩)) 140 77 :=
 ⟨rfl, fun _ _ => by kernel_rfl, fun _ _ => by kernel_rfl⟩
noncomputable def namedOf (s names : ByteArray) : Option Tm := if nameOk names = true then parsedN s (bl names names.size) else none
theorem namedOf_valid {s names : ByteArray} {T : Tm} (h : namedOf s names = some T) : T.Valid := by
 unfold namedOf at h
 split at h
 ·exact parsedN_valid h
 ·cases h
theorem parsedN_whole (s : ByteArray) (L : List Int) : parsedN s L = wholeOf s (nct s 30 L 0 0) := by rw [parsedN_nct]; rfl
set_option maxRecDepth 100000 in
set_option maxHeartbeats 1600000 in
theorem namedI_any (s names : ByteArray) (hs : s.size ≤ 1152921504606846976) (hn : names.size ≤ maxLen) (w : World) : Calls Tryz.prog 28 #[.string s, .string names] w (fun e w' => Below w.heap.size w w' ∧ ∃ v, e = .returned (.tuple #[v, .bool (namedOf s names).isSome]) ∧ Made w.heap.size ((namedOf s names).getD zeroT) v w') := by
 obtain ⟨post, hpost⟩ : ∃ post : Ending → World → Prop, post = (fun e w' => Below w.heap.size w w' ∧ ∃ v, e = .returned (.tuple #[v, .bool (namedOf s names).isSome]) ∧ Made w.heap.size ((namedOf s names).getD zeroT) v w') := ⟨_, rfl⟩
 rw [← hpost]
 have HPO := tuck hpost
 clear hpost
 have HB1 := tuck (below1 w (.cells #[.int .i64 0, .int .i64 0, .slice none 0 0] 25))
 have HV1 := tuck (VarAt.new w 0 0 (.slice none 0 0))
 have HNF := tuck (namesFrom_any names (w.alloc (.cells #[.int .i64 0, .int .i64 0, .slice none 0 0] 25)) hn)
 have hz1 : w.heap.size < (w.alloc (.cells #[.int .i64 0, .int .i64 0, .slice none 0 0] 25)).heap.size := by simp
 clear hn
 go_enter Tryz.func28, Tryz.ntmps28
 go_wp2_with fail
 generalize w.alloc (.cells #[.int .i64 0, .int .i64 0, .slice none 0 0] 25) = W1 at *
 refine HNF.out.mono ?_
 rintro e w2 ⟨hb2, q, rfl, hnl⟩
 have HV2 := tuck (HV1.out.below hb2)
 have HB2 := tuck (bAfter HB1.out hb2)
 have HNL := tuck hnl
 have hsz2 := hb2.size
 clear hb2 hnl HNF
 cases hk : nameOk names with
 | false =>
  have ho : namedOf s names = none := by unfold namedOf; rw [hk]; rfl
  rw [ho] at HPO
  clear hk ho HNL
  obtain ⟨zv, v0, v1, v2, vf⟩ := HV2.out.facts
  go_wp2_with fail
  refine bodyPost_ret (v := .tuple #[.agg #[.int .i64 0, .int .i64 0, .slice none 0 0], .bool false]) (by simp [results, Tryz.results28, go_sem, *]) rfl ?_
  rw [HPO.out]
  first
   | exact ⟨bSet3 HB2.out (Nat.le_refl _) _ _ _ _ _ _, _, rfl, _, [], rfl, SlOwn.nil _ _ _, List.nodup_nil, fun g h => by cases h⟩
   | exact ⟨HB2.out, _, rfl, _, [], rfl, SlOwn.nil _ _ _, List.nodup_nil, fun g h => by cases h⟩
 | true =>
  have ho : namedOf s names = parsedN s (bl names names.size) := by unfold namedOf; rw [hk]; rfl
  rw [ho] at HPO
  have hlen := nameOk_size hk
  have hl := HNL.out hk
  have HNC := tuck (newNamed_any s (bl names names.size) q w2 hl)
  have hLB : (bl names names.size).length ≤ 20 := by rw [bl_length]; exact hlen
  clear hk ho HNL hl
  generalize bl names names.size = L at *
  go_wp2_with fail
  refine HNC.out.mono ?_
  rintro e w3 ⟨rfl, hb3, hrw, hcu⟩
  have HV3 := tuck (HV2.out.below hb3)
  have HB3 := tuck (bAfter HB2.out hb3)
  have hgz := hcu.facts.1
  have HW := tuck (rd_whole_any w2.heap.size s hs _ _ _ _ (form_named w2.heap.size) (RW w2.heap.size s L) (fun _ _ h1 h2 h3 => RW.turn h1 h2 h3) (nct s 30 L 0 0) (fun w h1 h => nterm_ok w2.heap.size s hs _ _ (form_named w2.heap.size) 30 20 (Nat.le_refl _) (by decide) L 0 0 w hLB h1 h (Nat.zero_le _) (by decide)) (fun x h => (nct_in (Nat.zero_le _) (by decide) h).1) w3 hrw hcu)
  rw [← parsedN_whole] at HW
  generalize parsedN s L = o at *
  clear hb3 hrw hcu HNC
  go_wp2_with fail
  refine HW.out.mono ?_
  rintro e w4 ⟨ht4, v, rfl, sv, F, rfl, ho, hn, hF⟩
  obtain ⟨sa, sc, rfl⟩ := ho.form
  obtain ⟨zv, v0, v1, v2, vf⟩ := (HV3.out.only ht4.1 (by omega)).facts
  have hz : Below w.heap.size w w4 := Only.below HB3.out ht4.1 (by omega) HB3.out.size
  have HZ := tuck hz
  have HOW := tuck ho
  have HF := tuck hF
  have HNN := tuck hn
  clear ht4 ho hF hn hz HW
  have hb := HPO.out
  generalize o.isSome = b at *
  go_wp2_with fail
  refine bodyPost_ret (v := .tuple #[.agg #[.int .i64 (o.getD (.mk 0 0 [])).kind, .int .i64 (o.getD (.mk 0 0 [])).num, .slice sa (o.getD (.mk 0 0 [])).kids.length sc], .bool b]) (by simp [results, Tryz.results28, go_sem, *]) rfl ?_
  rw [hb]
  refine ⟨bSet3 HZ.out (Nat.le_refl _) _ _ _ _ _ _, _, rfl, _, F, rfl, HOW.out.set3 (fun h => by have := (HF.out _ h).1; omega) _ _ _ _ _ _, HNN.out, fun y hy => ?_⟩
  rw [size_set3]
  have := HF.out y hy
  omega
end Go.Proofs.YtjdmfegdgpbkgaaGreat
