/-
  The law FnTextLength: whatever the bytes, a text has at least as many bytes as the term has nodes, and the text of another term is empty.
-/
import Derived.Test.YteeafpnjpcgfaaaGreatDrawsL
import Derived.Test.YteeafpnjpcgfaaaGreatImplN
import Derived.Test.YteeafpnjpcgfaaaGreatVars
import Derived.Test.YteeafpnjpcgfaaaGreatFmE
import Derived.IntWalk
namespace Go.Proofs.YteeafpnjpcgfaaaGreat.fnTextLength
open Go.ChangeShapes Go.WideShapes Go.ChangeAt Go.RowKit Go.Deep
set_option linter.unusedVariables false

theorem readable_FnTextLength : ∀ t ∈ (#[33] : Array TypeId).toList, Tryz.prog.readableRec t = true ∧ t < Tryz.prog.types.size := by
  intro t ht
  simp at ht
  subst ht
  exact ⟨by kernel_rfl, of_decide_eq_true (by kernel_rfl)⟩
theorem laid : laidOutB Tryz.prog = true := by kernel_rfl

set_option maxRecDepth 100000 in
set_option maxHeartbeats 1600000 in
theorem walk (U : Nat → Int) (a : Option Addr) (b o len cap : Nat) (w : World) (hlc : len ≤ cap) (hcm : cap ≤ maxLen) (hby : Bytes U a b o len w) : Calls Tryz.prog 4 #[.slice a len cap] w fun e w' => e = .returned (.bool true) ∧ Below w.heap.size w w' := by
  unfold maxLen at hcm
  by_cases hl : 1048576 < len
  · have hl' : (1048576 : Int) < (len : Int) := by omega
    clear hby
    go_enter Tryz.func4, Tryz.ntmps4
    go_wp2
    go_ret
    exact ⟨rfl, Below.refl _ _⟩
  have hl' : ¬ (1048576 : Int) < (len : Int) := by omega
  have HD := tuck (dFormatTerm_any w (by omega) hlc hby)
  clear hby
  go_enter Tryz.func4, Tryz.ntmps4
  go_wp2_with fail
  refine HD.out.mono ?_
  rintro e w1 ⟨T, v, rfl, ⟨s, rfl, hin⟩, hsz, hb⟩
  obtain ⟨aV, cV, rfl⟩ := hin.form
  have V := tuck (TV.new (hin.mono (Nat.zero_le _)))
  have HB := tuck (bAfter hb (below1 w1 (.cells #[.int .i64 T.kind, .int .i64 T.num, .slice aV T.kids.length cV] 29)))
  have HSZ : Hid (sizes T.kids ≤ 1048576) := tuck (by have := T.size_eq; omega)
  clear hin hb HD hsz
  go_wp2_with fail
  generalize w1.alloc (.cells #[.int .i64 T.kind, .int .i64 T.num, .slice aV T.kids.length cV] 29) = U0 at *
  generalize w1.heap.size = gV at *
  obtain ⟨X, hX⟩ : ∃ X, fmtOf T = X := ⟨_, rfl⟩
  obtain ⟨n, hn⟩ : ∃ n, nodesOf T = n := ⟨_, rfl⟩
  have HFI : Hid (∀ (w : World) (v : Value), TmIn w 0 T v → Calls Tryz.prog 11 #[v] w (StrPost w X)) := tuck fun w v h => by
    rw [← hX]; exact formatI_any T w v h
  have HFS : Hid (∀ (w : World) (v : Value), TmIn w 0 T v → Calls Tryz.prog 9 #[v] w (StrPost w X)) := tuck fun w v h => by
    rw [← hX]; exact format_any T w v h
  have HNI : Hid (∀ (w : World) (v : Value), TmIn w 0 T v → Calls Tryz.prog 14 #[v] w (IntPost w n)) := tuck fun w v h => by
    rw [← hn]; exact nodesI_any T w v h
  have hxx : (X.toList == X.toList) = true := by simp
  by_cases hv : T.Valid
  rotate_left
  · skip
    have HVI : Hid (∀ (w : World) (v : Value), TmIn w 0 T v → Calls Tryz.prog 15 #[v] w (BoolPost w false)) := tuck fun w v h => by
      have h2 := validI_any T w v h; rwa [tr_not hv] at h2
    rw [fmtOf_no hv] at hX
    unfold nodesOf at hn
    rw [if_neg hv] at hn
    subst hX hn
    clear hv
    refine (HFI.out _ _ V.out.tm).mono ?_
    rintro e u21 ⟨rfl, hb⟩
    replace V := tuck (V.out.below hb)
    replace HB := tuck (bAfter HB.out hb)
    clear hb
    obtain ⟨zV, c0V, c1V, c2V, cfV⟩ := V.out.facts
    go_wp2_with fail
    refine (HFS.out _ _ V.out.tm).mono ?_
    rintro e u22 ⟨rfl, hb⟩
    clear zV c0V c1V c2V cfV
    replace V := tuck (V.out.below hb)
    replace HB := tuck (bAfter HB.out hb)
    clear hb
    obtain ⟨zV, c0V, c1V, c2V, cfV⟩ := V.out.facts
    go_wp2_with fail
    refine (HNI.out _ _ V.out.tm).mono ?_
    rintro e u23 ⟨rfl, hb⟩
    clear zV c0V c1V c2V cfV
    replace V := tuck (V.out.below hb)
    replace HB := tuck (bAfter HB.out hb)
    clear hb
    obtain ⟨zV, c0V, c1V, c2V, cfV⟩ := V.out.facts
    go_wp2_with fail
    refine (HVI.out _ _ V.out.tm).mono ?_
    rintro e u24 ⟨rfl, hb⟩
    clear zV c0V c1V c2V cfV
    replace V := tuck (V.out.below hb)
    replace HB := tuck (bAfter HB.out hb)
    clear hb
    obtain ⟨zV, c0V, c1V, c2V, cfV⟩ := V.out.facts
    go_wp2_with fail
    go_ret
    exact ⟨rfl, HB.out⟩
  have HVI : Hid (∀ (w : World) (v : Value), TmIn w 0 T v → Calls Tryz.prog 15 #[v] w (BoolPost w true)) := tuck fun w v h => by
    have h2 := validI_any T w v h; rwa [tr_of hv] at h2
  have hle : n ≤ (X.size : Int) := by
    rw [← hn, ← hX, fmtOf_yes hv]
    unfold nodesOf
    rw [if_pos hv]
    have h2 := T.size_txt hv.1
    omega
  have hld : decide (n ≤ (X.size : Int)) = true := decide_eq_true hle
  have hne : X.toList.isEmpty = false := by
    rw [← hX, fmtOf_yes hv]
    exact ba_ne2 (by have := T.txt_pos; omega)
  have hne2 : ¬ X.toList = [] := by
    intro e
    rw [e] at hne
    cases hne
  clear hv hX hn
  refine (HFI.out _ _ V.out.tm).mono ?_
  rintro e u1 ⟨rfl, hb⟩
  replace V := tuck (V.out.below hb)
  replace HB := tuck (bAfter HB.out hb)
  clear hb
  obtain ⟨zV, c0V, c1V, c2V, cfV⟩ := V.out.facts
  go_wp2_with fail
  refine (HFS.out _ _ V.out.tm).mono ?_
  rintro e u2 ⟨rfl, hb⟩
  clear zV c0V c1V c2V cfV
  replace V := tuck (V.out.below hb)
  replace HB := tuck (bAfter HB.out hb)
  clear hb
  obtain ⟨zV, c0V, c1V, c2V, cfV⟩ := V.out.facts
  go_wp2_with fail
  refine (HNI.out _ _ V.out.tm).mono ?_
  rintro e u3 ⟨rfl, hb⟩
  clear zV c0V c1V c2V cfV
  replace V := tuck (V.out.below hb)
  replace HB := tuck (bAfter HB.out hb)
  clear hb
  obtain ⟨zV, c0V, c1V, c2V, cfV⟩ := V.out.facts
  go_wp2_with fail
  refine (HVI.out _ _ V.out.tm).mono ?_
  rintro e u4 ⟨rfl, hb⟩
  clear zV c0V c1V c2V cfV
  replace V := tuck (V.out.below hb)
  replace HB := tuck (bAfter HB.out hb)
  clear hb
  obtain ⟨zV, c0V, c1V, c2V, cfV⟩ := V.out.facts
  go_wp2_with fail
  go_ret
  exact ⟨rfl, HB.out⟩

set_option maxRecDepth 100000 in
theorem lifted (os : Os) (started : os.Started) (H : Type) (enc : TypeId × Value → H) :
    ReturnsInHanded {} Tryz.checked os 4 .any (Rows.fnTextLengthSpec.pre6 enc Tryz.prog Tryz.f4 Rows.fnTextLengthRow.domain false) (Rows.fnTextLengthSpec.post enc Tryz.prog Tryz.f4 false true false false) := by
  refine returnsInHanded_of_change (C := Tryz.checked) own started (by kernel_rfl) Tryz.func4
    (ChangeSpec.witness6 (enc := enc) (C := Tryz.checked) false ⟨#[], #[.slice none 0 0], []⟩ 8 (by kernel_rfl) (by kernel_rfl) (by kernel_rfl) (by kernel_rfl)) ?_
  intro W base args ds gs before hval0 hW hcnd _
  have hval : ∀ (j : Nat) t v, Tryz.f4.params[j]? = some t → args[j]? = some v → Value.okWide Tryz.prog W .any base t v := hval0
  have hW' := hW
  obtain ⟨p, q, hA0, hV, rfl, hfz, hnd⟩ := hW
  have hA : DataW.TrodAll enc Tryz.prog W 0 (fun _ => true) true Tryz.f4.params.toList args.toList ds p := hA0
  rw [Tryz.params4] at hA hval
  obtain ⟨v0, vs0, d0, ds0, p0, q0, hargs, rfl, rfl, h0, r0⟩ := trodAll_cons hA
  obtain ⟨rfl, rfl, rfl⟩ := trodAll_nil r0
  obtain rfl : args = #[v0] := by cases args; simp_all
  obtain ⟨U0, ad0, bb0, oo0, len0, cap0, rfl, hlc0, hcm0, hbl0, hby0⟩ := open_bytes (hval 0 33 v0 rfl rfl) h0
  refine (walk U0 ad0 bb0 oo0 len0 cap0 W hlc0 hcm0 hby0).mono fun e W' ⟨he, hb⟩ => ?_
  subst he
  exact ⟨_, rfl, law_post rfl rfl (fun gs h => by subst h; rfl) (by rw [Tryz.params4]; exact readable_FnTextLength) laid hW' hb⟩

theorem over : Rows.fnTextLengthRow.holds Tryz.pinned (OpenSpec.ofChange Rows.fnTextLengthSpec) :=
  OpenClaim.holds_of_wide 4 Tryz.f4 rfl rfl rfl rfl rfl rfl rfl ⟨rfl, rfl, rfl, rfl, rfl⟩ rfl rfl rfl rfl rfl (by kernel_rfl) Tryz.func4 (by kernel_rfl)
    (of_decide_eq_true (by kernel_rfl)) (by unfold Func.isWrapper; first | (rw [if_pos (by decide +kernel)]; kernel_rfl) | (rw [if_neg (by decide +kernel)]; exact ⟨rfl, rfl⟩))
    (fun os started H enc _ => lifted os started H enc)

theorem proved : Rows.FnTextLengthSaid :=
  over
end Go.Proofs.YteeafpnjpcgfaaaGreat.fnTextLength
