/-
  The law FnExactFormatDefs: for every list of definitions (no ring among the parts of its terms), FormatDefs answers as its model and writes into no argument.
-/
import Derived.Test.YteeafpnjpcgfaaaGreatFdB
import Derived.Test.YteeafpnjpcgfaaaGreatLawL
namespace Go.Proofs.YteeafpnjpcgfaaaGreat.fnExactFormatDefs
open Go.ChangeShapes Go.WideShapes Go.ChangeAt Go.RowKit Go.Deep
set_option linter.unusedVariables false

theorem readable_FnExactFormatDefs : ∀ t ∈ (#[40] : Array TypeId).toList, Tryz.prog.readableRec t = true ∧ t < Tryz.prog.types.size := by
  intro t ht
  simp at ht
  subst ht
  exact ⟨by kernel_rfl, of_decide_eq_true (by kernel_rfl)⟩
theorem laid : laidOutB Tryz.prog = true := by kernel_rfl

set_option maxRecDepth 100000 in
set_option maxHeartbeats 4000000 in
/-- The walk. -/
theorem walk (l : List (Tm × Tm)) (w : World) (vl : Value) (hl : DfIn w 0 l vl) : Calls Tryz.prog 6 #[vl] w fun e w' => e = .returned (.bool true) ∧ Below w.heap.size w w' := by
  obtain ⟨la, lc, rfl⟩ := hl.form
  have HS := tuck hl
  have HSZ := tuck (szDefS_any l 1048576 w _ (by decide) (by decide) hl)
  clear hl
  by_cases hsz : (dsizes l : Int) ≤ 1048576
  rotate_left
  · rw [if_neg hsz] at HSZ
    clear hsz
    go_enter Tryz.func6, Tryz.ntmps6
    go_wp2_with fail
    refine HSZ.out.mono ?_
    rintro e w1 ⟨rfl, hb⟩
    have HB := tuck hb
    clear hb
    go_wp2_with fail
    go_ret
    exact ⟨rfl, HB.out⟩
  rw [if_pos hsz] at HSZ
  obtain ⟨left, hleft⟩ : ∃ x : Int, x = 1048576 - (dsizes l : Int) := ⟨_, rfl⟩
  rw [← hleft] at HSZ
  have hln : ¬ left < 0 := by omega
  have hlen : l.length ≤ 1048576 := by have := dsizes_len l; omega
  obtain ⟨R0, hR0⟩ : ∃ R : ByteArray, R = fmtDefs l := ⟨_, rfl⟩
  have hrr : (R0.toList == R0.toList) = true := by simp
  have HTO : Hid (∀ W, Below w.heap.size w W → Calls Tryz.prog 20 #[.slice la l.length lc] W (ToDsPost W l)) := tuck fun W h => toDefS_any l W _ (by omega) (HS.out.below h)
  have HSP : Hid (∀ W v, DfIn W 0 l v → Calls Tryz.prog 19 #[v] W (StrPost W R0)) := tuck fun W v h => by rw [hR0]; exact formatDefsS_any l W v h
  have HIM : Hid (∀ W v, DfIn W 0 l v → Calls Tryz.prog 21 #[v] W (StrPost W R0)) := tuck fun W v h => by rw [hR0]; exact formatDefsI_any l W v h
  have HEQ : Hid (∀ W v1 v2, DfIn W 0 l v1 → DfIn W 0 l v2 → Calls Tryz.prog 22 #[v1, v2] W (EqPost W true)) := tuck fun W v1 v2 h1 h2 => eqDefS_any l W v1 v2 hlen h1 h2
  clear hsz hleft hlen hR0
  go_enter Tryz.func6, Tryz.ntmps6
  go_wp2_with fail
  refine HSZ.out.mono ?_
  rintro e w1 ⟨rfl, hb⟩
  have HB := tuck hb
  clear hb
  go_wp2_with fail
  refine (HTO.out _ HB.out).mono ?_
  rintro e w2 ⟨a2, c2, rfl, hd, hb⟩
  replace HB := tuck (bAfter HB.out hb)
  have HX := tuck (hd.mono (Nat.zero_le _))
  clear hb hd
  go_wp2_with fail
  refine (HSP.out _ _ HX.out).mono ?_
  rintro e w3 ⟨rfl, hb⟩
  replace HB := tuck (bAfter HB.out hb)
  clear hb HX
  go_wp2_with fail
  refine (HTO.out _ HB.out).mono ?_
  rintro e w4 ⟨a4, c4, rfl, hd, hb⟩
  replace HB := tuck (bAfter HB.out hb)
  have HX := tuck (hd.mono (Nat.zero_le _))
  clear hb hd
  go_wp2_with fail
  refine (HIM.out _ _ HX.out).mono ?_
  rintro e w5 ⟨rfl, hb⟩
  replace HB := tuck (bAfter HB.out hb)
  replace HX := tuck (HX.out.below hb)
  clear hb
  go_wp2_with fail
  refine (HTO.out _ HB.out).mono ?_
  rintro e w6 ⟨a6, c6, rfl, hd, hb⟩
  replace HB := tuck (bAfter HB.out hb)
  replace HX := tuck (HX.out.below hb)
  have HY := tuck (hd.mono (Nat.zero_le _))
  clear hb hd
  go_wp2_with fail
  refine (HEQ.out _ _ _ HX.out HY.out).mono ?_
  rintro e w7 ⟨rfl, hb⟩
  replace HB := tuck (bAfter HB.out hb)
  clear hb
  go_wp2_with fail
  go_ret
  exact ⟨rfl, HB.out⟩

set_option maxRecDepth 100000 in
theorem lifted (os : Os) (started : os.Started) (H : Type) (enc : TypeId × Value → H) :
    ReturnsInHanded {} Tryz.checked os 6 .any (Rows.fnExactFormatDefsSpec.pre6 enc Tryz.prog Tryz.f6 Rows.fnExactFormatDefsRow.domain false) (Rows.fnExactFormatDefsSpec.post enc Tryz.prog Tryz.f6 false true false false) := by
  refine returnsInHanded_of_change (C := Tryz.checked) own started (by kernel_rfl) Tryz.func6
    (ChangeSpec.witness6 (enc := enc) (C := Tryz.checked) false ⟨#[], #[.slice none 0 0], []⟩ 8 (by kernel_rfl) (by kernel_rfl) (by kernel_rfl) (by kernel_rfl)) ?_
  intro W base args ds gs before hval0 hW hcnd _
  have hval : ∀ (j : Nat) t v, Tryz.f6.params[j]? = some t → args[j]? = some v → Value.okWide Tryz.prog W .any base t v := hval0
  have hW' := hW
  obtain ⟨p, q, hA0, hV, rfl, hfz, hnd⟩ := hW
  have hA : DataW.TrodAll enc Tryz.prog W 0 (fun _ => true) true Tryz.f6.params.toList args.toList ds p := hA0
  rw [Tryz.params6] at hA hval
  obtain ⟨v0, vs0, d0, ds0, p0, q0, hargs, rfl, rfl, h0, r0⟩ := trodAll_cons hA
  obtain ⟨rfl, rfl, rfl⟩ := trodAll_nil r0
  obtain rfl : args = #[v0] := by cases args; simp_all
  obtain ⟨l0, hl0⟩ := open_defs (hval 0 40 v0 rfl rfl) h0
  refine (walk l0 W v0 hl0).mono fun e W' ⟨he, hb⟩ => ?_
  subst he
  exact ⟨_, rfl, law_post rfl rfl (fun gs h => by subst h; rfl) (by rw [Tryz.params6]; exact readable_FnExactFormatDefs) laid hW' hb⟩

theorem over : Rows.fnExactFormatDefsRow.holds Tryz.pinned (OpenSpec.ofChange Rows.fnExactFormatDefsSpec) :=
  OpenClaim.holds_of_wide 6 Tryz.f6 rfl rfl rfl rfl rfl rfl rfl ⟨rfl, rfl, rfl, rfl, rfl⟩ rfl rfl rfl rfl rfl (by kernel_rfl) Tryz.func6 (by kernel_rfl)
    (of_decide_eq_true (by kernel_rfl)) (by unfold Func.isWrapper; first | (rw [if_pos (by decide +kernel)]; kernel_rfl) | (rw [if_neg (by decide +kernel)]; exact ⟨rfl, rfl⟩))
    (fun os started H enc _ => lifted os started H enc)

theorem proved : Rows.FnExactFormatDefsSaid :=
  over
end Go.Proofs.YteeafpnjpcgfaaaGreat.fnExactFormatDefs
