/-
  The law FnCountNodes: whatever the bytes, the nodes and the depth of a term are told by its operands.
-/
import Derived.Test.YtmgoajgjpgamcaaB31
import Derived.Test.YtmgoajgjpgamcaaB34
import Derived.Test.YtmgoajgjpgamcaaB37
import Derived.IntWalk
namespace Go.Proofs.Ytmgoajgjpgamcaa.fnCountNodes
open Go.ChangeShapes Go.WideShapes Go.ChangeAt Go.RowKit Go.Deep
set_option linter.unusedVariables false
theorem readable_FnCountNodes : ∀ t ∈ (#[22] : Array TypeId).toList, Try.prog.readableRec t = true ∧ t < Try.prog.types.size := by
 intro t ht
 simp at ht
 subst ht
 exact ⟨by kernel_rfl, of_decide_eq_true (by kernel_rfl)⟩
theorem laid : laidOutB Try.prog = true := by kernel_rfl
set_option maxRecDepth 100000 in
set_option maxHeartbeats 1600000 in
theorem walk (U : Nat → Int) (a : Option Addr) (b o len cap : Nat) (w : World) (hlc : len ≤ cap) (hcm : cap ≤ maxLen) (hby : Bytes U a b o len w) : Calls Try.prog 3 #[.slice a len cap] w fun e w' => e = .returned (.bool true) ∧ Below w.heap.size w w' := by
 unfold maxLen at hcm
 by_cases hl : 1048576 < len
 ·have hl' : (1048576 : Int) < (len : Int) := by omega
  clear hby
  go_enter Try.func3, Try.ntmps3
  go_wp2
  go_ret
  exact ⟨rfl, Below.refl _ _⟩
 have hl' : ¬ (1048576 : Int) < (len : Int) := by omega
 have HD := tuck (dCountNodes_any w (by omega) hlc hby)
 clear hby
 go_enter Try.func3, Try.ntmps3
 go_wp2_with fail
 refine HD.out.mono ?_
 rintro e w1 ⟨T, v, rfl, ⟨s, rfl, hin⟩, hsz, hb⟩
 obtain ⟨aV, cV, rfl⟩ := hin.form
 have V := tuck (TV.new (hin.mono (Nat.zero_le _)))
 have HB := tuck (bAfter hb (below1 w1 (.cells #[.int .i64 T.kind, .int .i64 T.num, .slice aV T.kids.length cV] 25)))
 have HSZ : Hid (sizes T.kids ≤ 1048576) := tuck (by have := T.size_eq; omega)
 clear hin hb HD hsz
 go_wp2_with fail
 generalize w1.alloc (.cells #[.int .i64 T.kind, .int .i64 T.num, .slice aV T.kids.length cV] 25) = U0 at *
 generalize w1.heap.size = gV at *
 obtain ⟨n, hn⟩ : ∃ n, nodesOf T = n := ⟨_, rfl⟩
 obtain ⟨d, hd⟩ : ∃ d, depthOf T = d := ⟨_, rfl⟩
 have HNI : Hid (∀ (w : World) (v : Value), TmIn w 0 T v → Calls Try.prog 8 #[v] w (IntPost w n)) := tuck fun w v h => by
  rw [← hn]; exact nodesI_any T w v h
 have HNS : Hid (∀ (w : World) (v : Value), TmIn w 0 T v → Calls Try.prog 10 #[v] w (IntPost w n)) := tuck fun w v h => by
  rw [← hn]; exact nodesS_any T w v h
 have HDI : Hid (∀ (w : World) (v : Value), TmIn w 0 T v → Calls Try.prog 9 #[v] w (IntPost w d)) := tuck fun w v h => by
  rw [← hd]; exact depthI_any T w v h
 have HDS : Hid (∀ (w : World) (v : Value), TmIn w 0 T v → Calls Try.prog 11 #[v] w (IntPost w d)) := tuck fun w v h => by
  rw [← hd]; exact depthS_any T w v h
 have hn0 : (n != n) = false := by simp
 have hn1 : (n == n) = true := by simp
 have hd0 : (d != d) = false := by simp
 have hd1 : (d == d) = true := by simp
 by_cases hv : T.Valid
 rotate_left
 ·skip
  have HVI : Hid (∀ (w : World) (v : Value), TmIn w 0 T v → Calls Try.prog 12 #[v] w (BoolPost w false)) := tuck fun w v h => by
   have h2 := validI_any T w v h; rwa [tr_not hv] at h2
  clear hv hn hd
  refine (HNI.out _ _ V.out.tm).mono ?_
  rintro e u21 ⟨rfl, hb⟩
  replace V := tuck (V.out.below hb)
  replace HB := tuck (bAfter HB.out hb)
  clear hb
  obtain ⟨zV, c0V, c1V, c2V, cfV⟩ := V.out.facts
  go_wp2_with fail
  refine (HDI.out _ _ V.out.tm).mono ?_
  rintro e u22 ⟨rfl, hb⟩
  clear zV c0V c1V c2V cfV
  replace V := tuck (V.out.below hb)
  replace HB := tuck (bAfter HB.out hb)
  clear hb
  obtain ⟨zV, c0V, c1V, c2V, cfV⟩ := V.out.facts
  go_wp2_with fail
  refine (HNS.out _ _ V.out.tm).mono ?_
  rintro e u23 ⟨rfl, hb⟩
  clear zV c0V c1V c2V cfV
  replace V := tuck (V.out.below hb)
  replace HB := tuck (bAfter HB.out hb)
  clear hb
  obtain ⟨zV, c0V, c1V, c2V, cfV⟩ := V.out.facts
  go_wp2_with fail
  refine (HDS.out _ _ V.out.tm).mono ?_
  rintro e u24 ⟨rfl, hb⟩
  clear zV c0V c1V c2V cfV
  replace V := tuck (V.out.below hb)
  replace HB := tuck (bAfter HB.out hb)
  clear hb
  obtain ⟨zV, c0V, c1V, c2V, cfV⟩ := V.out.facts
  go_wp2_with fail
  refine (HVI.out _ _ V.out.tm).mono ?_
  rintro e u25 ⟨rfl, hb⟩
  clear zV c0V c1V c2V cfV
  replace V := tuck (V.out.below hb)
  replace HB := tuck (bAfter HB.out hb)
  clear hb
  obtain ⟨zV, c0V, c1V, c2V, cfV⟩ := V.out.facts
  go_wp2_with fail
  refine (HNS.out _ _ V.out.tm).mono ?_
  rintro e u26 ⟨rfl, hb⟩
  clear zV c0V c1V c2V cfV
  replace V := tuck (V.out.below hb)
  replace HB := tuck (bAfter HB.out hb)
  clear hb
  obtain ⟨zV, c0V, c1V, c2V, cfV⟩ := V.out.facts
  go_wp2_with fail
  refine (HDS.out _ _ V.out.tm).mono ?_
  rintro e u27 ⟨rfl, hb⟩
  clear zV c0V c1V c2V cfV
  replace V := tuck (V.out.below hb)
  replace HB := tuck (bAfter HB.out hb)
  clear hb
  obtain ⟨zV, c0V, c1V, c2V, cfV⟩ := V.out.facts
  go_wp2_with fail
  go_ret
  exact ⟨rfl, HB.out⟩
 have HVI : Hid (∀ (w : World) (v : Value), TmIn w 0 T v → Calls Try.prog 12 #[v] w (BoolPost w true)) := tuck fun w v h => by
  have h2 := validI_any T w v h; rwa [tr_of hv] at h2
 have HKN : Hid (∀ (q : Nat) (h1 : q < T.kids.length) (w : World) (v : Value), TmIn w 0 T.kids[q] v → Calls Try.prog 8 #[v] w (IntPost w (T.kids[q].size : Int))) := tuck fun q h1 w v h => by
  have h2 := nodesI_any _ w v h; unfold nodesOf at h2; rwa [if_pos (hv.get h1)] at h2
 have HKD : Hid (∀ (q : Nat) (h1 : q < T.kids.length) (w : World) (v : Value), TmIn w 0 T.kids[q] v → Calls Try.prog 9 #[v] w (IntPost w (T.kids[q].hgt : Int))) := tuck fun q h1 w v h => by
  have h2 := depthI_any _ w v h; unfold depthOf at h2; rwa [if_pos (hv.get h1)] at h2
 have HEN : Hid (n = ((1 + sizes T.kids : Nat) : Int)) := tuck (by rw [← hn]; unfold nodesOf; rw [if_pos hv, T.size_eq])
 have HED : Hid (d = ((1 + hgts T.kids : Nat) : Int)) := tuck (by rw [← hd]; unfold depthOf; rw [if_pos hv, T.hgt_eq])
 have HLE : Hid (∀ q, sizes (T.kids.take q) ≤ 400 ∧ hgts (T.kids.take q) ≤ 400) := tuck fun q => by
  have h2 := (valid_bounds hv).1
  have h3 : sizes (T.kids.take q) + sizes (T.kids.drop q) = sizes T.kids := by rw [← sizes_append, List.take_append_drop]
  have h4 := hgts_sizes (T.kids.take q)
  omega
 have HDN : Hid (d ≤ n) := tuck (by rw [HEN.out, HED.out]; have := hgts_sizes T.kids; omega)
 have HKB : Hid (∀ (q : Nat) (h1 : q < T.kids.length), T.kids[q].size ≤ 400 ∧ T.kids[q].hgt ≤ 400) := tuck fun q h1 => ⟨(hv.get h1).2.2, by have := (hv.get h1).2.1; omega⟩
 clear hv hn hd
 refine (HNI.out _ _ V.out.tm).mono ?_
 rintro e u1 ⟨rfl, hb⟩
 replace V := tuck (V.out.below hb)
 replace HB := tuck (bAfter HB.out hb)
 clear hb
 obtain ⟨zV, c0V, c1V, c2V, cfV⟩ := V.out.facts
 go_wp2_with fail
 refine (HDI.out _ _ V.out.tm).mono ?_
 rintro e u2 ⟨rfl, hb⟩
 clear zV c0V c1V c2V cfV
 replace V := tuck (V.out.below hb)
 replace HB := tuck (bAfter HB.out hb)
 clear hb
 obtain ⟨zV, c0V, c1V, c2V, cfV⟩ := V.out.facts
 go_wp2_with fail
 refine (HNS.out _ _ V.out.tm).mono ?_
 rintro e u3 ⟨rfl, hb⟩
 clear zV c0V c1V c2V cfV
 replace V := tuck (V.out.below hb)
 replace HB := tuck (bAfter HB.out hb)
 clear hb
 obtain ⟨zV, c0V, c1V, c2V, cfV⟩ := V.out.facts
 go_wp2_with fail
 refine (HDS.out _ _ V.out.tm).mono ?_
 rintro e u4 ⟨rfl, hb⟩
 clear zV c0V c1V c2V cfV
 replace V := tuck (V.out.below hb)
 replace HB := tuck (bAfter HB.out hb)
 clear hb
 obtain ⟨zV, c0V, c1V, c2V, cfV⟩ := V.out.facts
 go_wp2_with fail
 refine (HVI.out _ _ V.out.tm).mono ?_
 rintro e u5 ⟨rfl, hb⟩
 clear zV c0V c1V c2V cfV
 replace V := tuck (V.out.below hb)
 replace HB := tuck (bAfter HB.out hb)
 clear hb
 obtain ⟨zV, c0V, c1V, c2V, cfV⟩ := V.out.facts
 go_wp2_with fail
 clear zV c0V c1V c2V cfV
 go_loopw [6, 7, 8] (fun sm dp i wr => ∃ (q m h : Nat), q ≤ T.kids.length ∧ i = .int .i64 q ∧ sm = .int .i64 m ∧ dp = .int .i64 h ∧ m = 1 + sizes (T.kids.take q) ∧ h = hgts (T.kids.take q) ∧ Below u5.heap.size u5 wr) (fun _ _ i _ => T.kids.length - (intOf i).toNat)
 case atStart => exact ⟨0, 1, 0, Nat.zero_le _, rfl, rfl, rfl, by rw [List.take_zero, sizes], by rw [List.take_zero, hgts], Below.refl _ _⟩
 case round =>
  obtain ⟨q, m, h, hq, rfl, rfl, rfl, hm, hh, hb⟩ := hrel
  have VR := tuck (V.out.below hb)
  have HBW := tuck hb
  have HM := tuck hm
  have HH := tuck hh
  have hle := HLE.out q
  have hm4 : m ≤ 401 := by omega
  have hh4 : h ≤ 400 := by omega
  clear hb hm hh hle
  obtain ⟨z, c0, c1, c2, cf⟩ := VR.out.facts
  by_cases hlt : q < T.kids.length
  rotate_left
  ·have hlti : ¬ ((q : Int) < (T.kids.length : Int)) := by omega
   have hqe : q = T.kids.length := by omega
   have hen : n = (m : Int) := by rw [HEN.out, HM.out, hqe, List.take_length]
   have hed : d = (h : Int) + 1 := by rw [HED.out, HH.out, hqe, List.take_length]; omega
   have HBR := tuck (bAfter HB.out HBW.out)
   have g1 : (n == (m : Int)) = true := by rw [beq_iff_eq]; exact hen
   have g2 : (d == (h : Int) + 1) = true := by rw [beq_iff_eq]; exact hed
   have hwr : IntKind.i64.wrap ((h : Int) + 1) = (h : Int) + 1 := IntWalk.i64_in _ (by omega)
   have g3 : d ≤ n := HDN.out
   clear hen hed
   go_wp2_with fail
   go_ret
   exact ⟨rfl, HBR.out⟩
  have hlti : ((q : Int) < (T.kids.length : Int)) := by omega
  obtain ⟨x1, x2, b1, o1, e1, hl1, hp1, hc1⟩ := VR.out.sl.open
  injection e1 with e11 e12 e13
  subst e11 e13
  obtain ⟨rfl, -, hbw1⟩ := hp1 (by intro e; rw [e] at hlt; simp at hlt)
  obtain ⟨s, k0, k1, k2, hs⟩ := hc1 q hlt
  have HS := tuck hs
  have hlm : T.kids.length ≤ 9223372036854775807 := by unfold maxLen at hl1; omega
  clear hs hc1 hp1 e12 hl1
  have HTN := tuck (HKN.out q hlt)
  have HTD := tuck (HKD.out q hlt)
  have hkq := HKB.out q hlt
  have HX : Hid (1 + sizes (T.kids.take (q + 1)) = m + T.kids[q].size) := tuck (by rw [sizes_take hlt, HM.out]; omega)
  have HY : Hid (hgts (T.kids.take (q + 1)) = max h T.kids[q].hgt) := tuck (by rw [hgts_take hlt, HH.out])
  generalize T.kids[q] = xk at *
  obtain ⟨xs, hxs⟩ : ∃ xs, xk.size = xs := ⟨_, rfl⟩
  obtain ⟨xh, hxh⟩ : ∃ xh, xk.hgt = xh := ⟨_, rfl⟩
  rw [hxs] at HTN HX hkq
  rw [hxh] at HTD HY hkq
  clear hxs hxh HKN HKD HKB
  obtain ⟨hk1, hk2⟩ := hkq
  have hwr : IntKind.i64.wrap ((m : Int) + (xs : Int)) = (m : Int) + (xs : Int) := IntWalk.i64_in _ (by omega)
  have hbk : b1 < wr.heap.size := World.block_lt_of_cell? wr _ k0
  go_wp2_with fail
  refine (HTN.out _ _ ⟨s, rfl, HS.out⟩).mono ?_
  rintro e w2 ⟨rfl, hb2⟩
  have HB2 := tuck hb2
  obtain ⟨z2, y0, y1, y2, yf⟩ := (VR.out.below hb2).facts
  have m0 := (hb2.cell (p := ⟨b1, o1 + q * 3, none⟩) hbk).trans k0
  have m1 := (hb2.cell (p := ⟨b1, o1 + q * 3 + 1, none⟩) hbk).trans k1
  have m2 := (hb2.cell (p := ⟨b1, o1 + q * 3 + 2, none⟩) hbk).trans k2
  clear hb2
  go_wp2_with fail
  refine (HTD.out _ _ ⟨s, rfl, HS.out.below HB2.out⟩).mono ?_
  rintro e w3 ⟨rfl, hb3⟩
  have HB3 := tuck (bAfter HB2.out hb3)
  obtain ⟨z3, x0, x1, x2, xf⟩ := (VR.out.below HB3.out).facts
  have p0 := (HB3.out.cell (p := ⟨b1, o1 + q * 3, none⟩) hbk).trans k0
  have p1 := (HB3.out.cell (p := ⟨b1, o1 + q * 3 + 1, none⟩) hbk).trans k1
  have p2 := (HB3.out.cell (p := ⟨b1, o1 + q * 3 + 2, none⟩) hbk).trans k2
  clear hb3
  by_cases hgt : h < xh
  ·have g1 : ((h : Int) < (xh : Int)) := by omega
   go_wp2_with fail
   refine (HTD.out _ _ ⟨s, rfl, HS.out.below HB3.out⟩).mono ?_
   rintro e w4 ⟨rfl, hb4⟩
   have HB4 := tuck (bAfter HB3.out hb4)
   clear hb4
   go_wp2_with fail
   go_roundw
   case rel => exact ⟨q + 1, m + xs, xh, by omega, by go_num, by go_num, rfl, HX.out.symm, by rw [HY.out]; omega, HBW.out.trans (HB4.out.mono HBW.out.size)⟩
   case measure => simp [intOf]; omega
  ·have g1 : ¬ ((h : Int) < (xh : Int)) := by omega
   go_wp2_with fail
   go_roundw
   case rel => exact ⟨q + 1, m + xs, h, by omega, by go_num, by go_num, rfl, HX.out.symm, by rw [HY.out]; omega, HBW.out.trans (HB3.out.mono HBW.out.size)⟩
   case measure => simp [intOf]; omega
set_option maxRecDepth 100000 in
theorem lifted (os : Os) (started : os.Started) (H : Type) (enc : TypeId × Value → H) :
  ReturnsInHanded {} Try.checked os 3 .any (Rows.fnCountNodesSpec.pre6 enc Try.prog Try.f3 Rows.fnCountNodesRow.domain false) (Rows.fnCountNodesSpec.post enc Try.prog Try.f3 false true false false) := by
 refine returnsInHanded_of_change (C := Try.checked) own started (by kernel_rfl) Try.func3
  (ChangeSpec.witness6 (enc := enc) (C := Try.checked) false ⟨#[], #[.slice none 0 0], []⟩ 8 (by kernel_rfl) (by kernel_rfl) (by kernel_rfl) (by kernel_rfl)) ?_
 intro W base args ds gs before hval0 hW hcnd _
 have hval : ∀ (j : Nat) t v, Try.f3.params[j]? = some t → args[j]? = some v → Value.okWide Try.prog W .any base t v := hval0
 have hW' := hW
 obtain ⟨p, q, hA0, hV, rfl, hfz, hnd⟩ := hW
 have hA : DataW.TrodAll enc Try.prog W 0 (fun _ => true) true Try.f3.params.toList args.toList ds p := hA0
 rw [Try.params3] at hA hval
 obtain ⟨v0, vs0, d0, ds0, p0, q0, hargs, rfl, rfl, h0, r0⟩ := trodAll_cons hA
 obtain ⟨rfl, rfl, rfl⟩ := trodAll_nil r0
 obtain rfl : args = #[v0] := by cases args; simp_all
 obtain ⟨U0, ad0, bb0, oo0, len0, cap0, rfl, hlc0, hcm0, hbl0, hby0⟩ := open_bytes (hval 0 22 v0 rfl rfl) h0
 refine (walk U0 ad0 bb0 oo0 len0 cap0 W hlc0 hcm0 hby0).mono fun e W' ⟨he, hb⟩ => ?_
 subst he
 exact ⟨_, rfl, law_post rfl rfl (fun gs h => by subst h; rfl) (by rw [Try.params3]; exact readable_FnCountNodes) laid hW' hb⟩
theorem over : Rows.fnCountNodesRow.holds Try.pinned (OpenSpec.ofChange Rows.fnCountNodesSpec) :=
 OpenClaim.holds_of_wide 3 Try.f3 rfl rfl rfl rfl rfl rfl rfl ⟨rfl, rfl, rfl, rfl, rfl⟩ rfl rfl rfl rfl rfl (by kernel_rfl) Try.func3 (by kernel_rfl)
  (of_decide_eq_true (by kernel_rfl)) (by unfold Func.isWrapper; first | (rw [if_pos (by decide +kernel)]; kernel_rfl) | (rw [if_neg (by decide +kernel)]; exact ⟨rfl, rfl⟩))
  (fun os started H enc _ => lifted os started H enc)
theorem proved : Rows.FnCountNodesSaid :=
 over
end Go.Proofs.Ytmgoajgjpgamcaa.fnCountNodes
