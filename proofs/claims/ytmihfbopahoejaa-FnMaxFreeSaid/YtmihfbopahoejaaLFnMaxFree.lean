/-
  The law FnMaxFree: whatever the bytes, a term has no free variables from its limit on, and the one before it occurs.
-/
import Derived.Test.YtmihfbopahoejaaDrawsA
import Derived.Test.YtmihfbopahoejaaVars
import Derived.Test.YtmihfbopahoejaaFree
import Derived.Test.YtmihfbopahoejaaSFree
import Derived.Test.YtmihfbopahoejaaImplS
namespace Go.Proofs.Ytmihfbopahoejaa.fnMaxFree
open Go.ChangeShapes Go.WideShapes Go.ChangeAt Go.RowKit Go.Deep
set_option linter.unusedVariables false

theorem readable_FnMaxFree : ∀ t ∈ (#[22] : Array TypeId).toList, Try.prog.readableRec t = true ∧ t < Try.prog.types.size := by
  intro t ht
  simp at ht
  subst ht
  exact ⟨by kernel_rfl, of_decide_eq_true (by kernel_rfl)⟩
theorem laid : laidOutB Try.prog = true := by kernel_rfl

set_option maxRecDepth 100000 in
set_option maxHeartbeats 1600000 in
theorem walk (U : Nat → Int) (a : Option Addr) (b o len cap : Nat) (w : World) (hlc : len ≤ cap) (hcm : cap ≤ maxLen) (hby : Bytes U a b o len w) : Calls Try.prog 8 #[.slice a len cap] w fun e w' => e = .returned (.bool true) ∧ Below w.heap.size w w' := by
  unfold maxLen at hcm
  by_cases hl : 1048576 < len
  · have hl' : (1048576 : Int) < (len : Int) := by omega
    clear hby
    go_enter Try.func8, Try.ntmps8
    go_wp2
    go_ret
    exact ⟨rfl, Below.refl _ _⟩
  have hl' : ¬ (1048576 : Int) < (len : Int) := by omega
  have HD := tuck (dMaxFree_any w (by omega) hlc hby)
  clear hby
  go_enter Try.func8, Try.ntmps8
  go_wp2_with fail
  refine HD.out.mono ?_
  rintro e w1 ⟨T, v, rfl, ⟨s, rfl, hin⟩, hsz, hb⟩
  obtain ⟨sa, sc, rfl⟩ := hin.form
  have V := tuck (TV.new (hin.mono (Nat.zero_le _)))
  have HB := tuck (bAfter hb (below1 w1 (.cells #[.int .i64 T.kind, .int .i64 T.num, .slice sa T.kids.length sc] 25)))
  clear hin hb HD
  go_wp2_with fail
  generalize w1.alloc (.cells #[.int .i64 T.kind, .int .i64 T.num, .slice sa T.kids.length sc] 25) = W at *
  generalize w1.heap.size = g at *
  have HI : Hid (∀ (w : World) (v : Value), TmIn w 0 T v → Calls Try.prog 26 #[v] w (IntPost w (maxFreeOf T))) := fun w v h => maxFreeI_any T w v h
  have HS : Hid (∀ (w : World) (v : Value), TmIn w 0 T v → Calls Try.prog 27 #[v] w (IntPost w (maxFreeOf T))) := fun w v h => maxFreeS_any T w v h
  by_cases hv : T.Valid
  rotate_left
  · skip
    have e1 : maxFreeOf T = -1 := by unfold maxFreeOf; rw [if_neg hv]
    rw [e1] at HI HS
    refine (HI.out _ _ V.out.tm).mono ?_
    rintro e u11 ⟨rfl, hb⟩
    replace V := tuck (V.out.below hb)
    replace HB := tuck (bAfter HB.out hb)
    clear hb
    obtain ⟨zV, c0V, c1V, c2V, cfV⟩ := V.out.facts
    go_wp2_with fail
    refine (HS.out _ _ V.out.tm).mono ?_
    rintro e u12 ⟨rfl, hb⟩
    clear zV c0V c1V c2V cfV
    replace V := tuck (V.out.below hb)
    replace HB := tuck (bAfter HB.out hb)
    clear hb
    obtain ⟨zV, c0V, c1V, c2V, cfV⟩ := V.out.facts
    go_wp2_with fail
    refine (HS.out _ _ V.out.tm).mono ?_
    rintro e u13 ⟨rfl, hb⟩
    clear zV c0V c1V c2V cfV
    replace V := tuck (V.out.below hb)
    replace HB := tuck (bAfter HB.out hb)
    clear hb
    obtain ⟨zV, c0V, c1V, c2V, cfV⟩ := V.out.facts
    go_wp2_with fail
    go_ret
    exact ⟨rfl, HB.out⟩
  obtain ⟨m, hm⟩ : ∃ m : Nat, T.most 0 = m := ⟨(T.most 0).toNat, by have := T.most_ge 0; omega⟩
  have hm1 : m ≤ 21 := by have := most_valid hv; omega
  have e1 : maxFreeOf T = m := by unfold maxFreeOf; rw [if_pos hv, hm]
  rw [e1] at HI HS
  have HF : Hid (∀ (x : Nat), m ≤ x → x ≤ 20 → ∀ (w : World) (v : Value), TmIn w 0 T v → Calls Try.prog 24 #[v, .int .i64 x] w (BoolPost w false)) := fun x h1 h2 w v h => by
    have h3 := freeAtI_any T x w v h
    have h4 : (countOf T x != 0) = false := by
      unfold countOf
      rw [if_pos ⟨hv, by omega, by omega⟩, ← Int.add_zero (x : Int), Tm.times_past T 0 x (by omega) (by omega)]
      rfl
    rwa [h4] at h3
  have HL : Hid (1 ≤ m → ∀ (w : World) (v : Value), TmIn w 0 T v → Calls Try.prog 24 #[v, .int .i64 ((m : Int) - 1)] w (BoolPost w true)) := fun h1 w v h => by
    have h3 := freeAtI_any T ((m : Int) - 1) w v h
    have h5 := Tm.times_last T 0 (by omega)
    rw [hm, Int.add_zero] at h5
    have h4 : (countOf T ((m : Int) - 1) != 0) = true := by
      unfold countOf
      rw [if_pos ⟨hv, by omega, by omega⟩]
      have h6 : T.times ((m : Int) - 1) ≠ 0 := by omega
      simpa using h6
    rwa [h4] at h3
  clear hv hm e1
  refine (HI.out _ _ V.out.tm).mono ?_
  rintro e u1 ⟨rfl, hb⟩
  replace V := tuck (V.out.below hb)
  replace HB := tuck (bAfter HB.out hb)
  clear hb
  obtain ⟨zV, c0V, c1V, c2V, cfV⟩ := V.out.facts
  go_wp2_with fail
  refine (HS.out _ _ V.out.tm).mono ?_
  rintro e u2 ⟨rfl, hb⟩
  clear zV c0V c1V c2V cfV
  replace V := tuck (V.out.below hb)
  replace HB := tuck (bAfter HB.out hb)
  clear hb
  have hnn : ¬ ((m : Int) < 0) := by omega
  obtain ⟨zV, c0V, c1V, c2V, cfV⟩ := V.out.facts
  go_wp2_with fail
  clear zV c0V c1V c2V cfV
  clear hnn
  go_loopw [5] (fun i wr => ∃ q : Nat, m ≤ q ∧ q ≤ 21 ∧ i = .int .i64 q ∧ Below w.heap.size w wr ∧ TV g T sa sc wr) (fun i _ => 21 - (intOf i).toNat)
  case atStart => exact ⟨m, Nat.le_refl _, hm1, rfl, HB.out, V.out⟩
  case round =>
    obtain ⟨q, hq, hq2, rfl, hb, hv⟩ := hrel
    clear HB V
    have V := tuck hv
    have HB := tuck hb
    clear hb hv
    by_cases hlt : q ≤ 20
    · have hlti : ((q : Int) ≤ 20) := by omega
      obtain ⟨zV, c0V, c1V, c2V, cfV⟩ := V.out.facts
      go_wp2_with fail
      refine (HF.out q hq hlt _ _ V.out.tm).mono ?_
      rintro e u3 ⟨rfl, hb⟩
      clear zV c0V c1V c2V cfV
      replace V := tuck (V.out.below hb)
      replace HB := tuck (bAfter HB.out hb)
      clear hb
      obtain ⟨zV, c0V, c1V, c2V, cfV⟩ := V.out.facts
      go_wp2_with fail
      clear zV c0V c1V c2V cfV
      go_roundw
      case rel => exact ⟨q + 1, by omega, by omega, by go_num, HB.out, V.out⟩
      case measure => simp [intOf]; omega
    · have hge2 : ¬ ((q : Int) ≤ 20) := by omega
      by_cases hm0 : m = 0
      · have hm0' : ((m : Int) == 0) = true := by simpa using hm0
        go_wp2_with fail
        go_ret
        exact ⟨rfl, HB.out⟩
      · have hm0' : ((m : Int) == 0) = false := by simpa using hm0
        obtain ⟨zV, c0V, c1V, c2V, cfV⟩ := V.out.facts
        go_wp2_with fail
        refine (HL.out (by omega) _ _ V.out.tm).mono ?_
        rintro e u4 ⟨rfl, hb⟩
        clear zV c0V c1V c2V cfV
        replace V := tuck (V.out.below hb)
        replace HB := tuck (bAfter HB.out hb)
        clear hb
        obtain ⟨zV, c0V, c1V, c2V, cfV⟩ := V.out.facts
        go_wp2_with fail
        go_ret
        exact ⟨rfl, HB.out⟩

set_option maxRecDepth 100000 in
theorem lifted (os : Os) (started : os.Started) (H : Type) (enc : TypeId × Value → H) :
    ReturnsInHanded {} Try.checked os 8 .any (Rows.fnMaxFreeSpec.pre6 enc Try.prog Try.f8 Rows.fnMaxFreeRow.domain false) (Rows.fnMaxFreeSpec.post enc Try.prog Try.f8 false true false false) := by
  refine returnsInHanded_of_change (C := Try.checked) own started (by kernel_rfl) Try.func8
    (ChangeSpec.witness6 (enc := enc) (C := Try.checked) false ⟨#[], #[.slice none 0 0], []⟩ 8 (by kernel_rfl) (by kernel_rfl) (by kernel_rfl) (by kernel_rfl)) ?_
  intro W base args ds gs before hval0 hW hcnd _
  have hval : ∀ (j : Nat) t v, Try.f8.params[j]? = some t → args[j]? = some v → Value.okWide Try.prog W .any base t v := hval0
  have hW' := hW
  obtain ⟨p, q, hA0, hV, rfl, hfz, hnd⟩ := hW
  have hA : DataW.TrodAll enc Try.prog W 0 (fun _ => true) true Try.f8.params.toList args.toList ds p := hA0
  rw [Try.params8] at hA hval
  obtain ⟨v0, vs0, d0, ds0, p0, q0, hargs, rfl, rfl, h0, r0⟩ := trodAll_cons hA
  obtain ⟨rfl, rfl, rfl⟩ := trodAll_nil r0
  obtain rfl : args = #[v0] := by cases args; simp_all
  obtain ⟨U0, ad0, bb0, oo0, len0, cap0, rfl, hlc0, hcm0, hbl0, hby0⟩ := open_bytes (hval 0 22 v0 rfl rfl) h0
  refine (walk U0 ad0 bb0 oo0 len0 cap0 W hlc0 hcm0 hby0).mono fun e W' ⟨he, hb⟩ => ?_
  subst he
  exact ⟨_, rfl, law_post rfl rfl (fun gs h => by subst h; rfl) (by rw [Try.params8]; exact readable_FnMaxFree) laid hW' hb⟩

theorem over : Rows.fnMaxFreeRow.holds Try.pinned (OpenSpec.ofChange Rows.fnMaxFreeSpec) :=
  OpenClaim.holds_of_wide 8 Try.f8 rfl rfl rfl rfl rfl rfl rfl ⟨rfl, rfl, rfl, rfl, rfl⟩ rfl rfl rfl rfl rfl (by kernel_rfl) Try.func8 (by kernel_rfl)
    (of_decide_eq_true (by kernel_rfl)) (by unfold Func.isWrapper; first | (rw [if_pos (by decide +kernel)]; kernel_rfl) | (rw [if_neg (by decide +kernel)]; exact ⟨rfl, rfl⟩))
    (fun os started H enc _ => lifted os started H enc)

theorem proved : Rows.FnMaxFreeSaid :=
  over
end Go.Proofs.Ytmihfbopahoejaa.fnMaxFree
