/-
  The law FnRenameSame: whatever the bytes, renaming each variable to itself changes nothing.
-/
import Derived.Test.YtmihfbopahoejaaDrawsA
import Derived.Test.YtmihfbopahoejaaVarsR
import Derived.Test.YtmihfbopahoejaaFree
import Derived.Test.YtmihfbopahoejaaSFree
import Derived.IntWalk
namespace Go.Proofs.Ytmihfbopahoejaa.fnRenameSame
open Go.ChangeShapes Go.WideShapes Go.ChangeAt Go.RowKit Go.Deep
set_option linter.unusedVariables false

theorem readable_FnRenameSame : ∀ t ∈ (#[22] : Array TypeId).toList, Try.prog.readableRec t = true ∧ t < Try.prog.types.size := by
  intro t ht
  simp at ht
  subst ht
  exact ⟨by kernel_rfl, of_decide_eq_true (by kernel_rfl)⟩
theorem laid : laidOutB Try.prog = true := by kernel_rfl

set_option maxRecDepth 100000 in
set_option maxHeartbeats 1600000 in
theorem walk (U : Nat → Int) (a : Option Addr) (b o len cap : Nat) (w : World) (hlc : len ≤ cap) (hcm : cap ≤ maxLen) (hby : Bytes U a b o len w) : Calls Try.prog 13 #[.slice a len cap] w fun e w' => e = .returned (.bool true) ∧ Below w.heap.size w w' := by
  unfold maxLen at hcm
  by_cases hl : 1048576 < len
  · have hl' : (1048576 : Int) < (len : Int) := by omega
    clear hby
    go_enter Try.func13, Try.ntmps13
    go_wp2
    go_ret
    exact ⟨rfl, Below.refl _ _⟩
  have hl' : ¬ (1048576 : Int) < (len : Int) := by omega
  have HD := tuck (dMaxFree_any w (by omega) hlc hby)
  clear hby
  go_enter Try.func13, Try.ntmps13
  go_wp2_with fail
  refine HD.out.mono ?_
  rintro e w1 ⟨T, v, rfl, ⟨s, rfl, hin⟩, hsz, hb⟩
  obtain ⟨aV, cV, rfl⟩ := hin.form
  have V := tuck (TV.new (hin.mono (Nat.zero_le _)))
  have HB := tuck (bAfter hb (below1 w1 (.cells #[.int .i64 T.kind, .int .i64 T.num, .slice aV T.kids.length cV] 25)))
  clear hin hb HD
  go_wp2_with fail
  generalize w1.alloc (.cells #[.int .i64 T.kind, .int .i64 T.num, .slice aV T.kids.length cV] 25) = U0 at *
  generalize w1.heap.size = gV at *
  have HI : Hid (∀ (w : World) (v : Value), TmIn w 0 T v → Calls Try.prog 26 #[v] w (IntPost w (maxFreeOf T))) := fun w v h => maxFreeI_any T w v h
  have HS : Hid (∀ (w : World) (v : Value), TmIn w 0 T v → Calls Try.prog 27 #[v] w (IntPost w (maxFreeOf T))) := fun w v h => maxFreeS_any T w v h
  by_cases hv : T.Valid
  rotate_left
  · skip
    have e1 : maxFreeOf T = -1 := by unfold maxFreeOf; rw [if_neg hv]
    rw [e1] at HI HS
    refine (HI.out _ _ V.out.tm).mono ?_
    rintro e u11 ⟨rfl, hb⟩
    replace V := tuck (V.out.below hb)
    replace HB := tuck (bAfter HB.out hb)
    clear hb
    obtain ⟨zV, c0V, c1V, c2V, cfV⟩ := V.out.facts
    go_wp2_with fail
    refine (HS.out _ _ V.out.tm).mono ?_
    rintro e u12 ⟨rfl, hb⟩
    clear zV c0V c1V c2V cfV
    replace V := tuck (V.out.below hb)
    replace HB := tuck (bAfter HB.out hb)
    clear hb
    obtain ⟨zV, c0V, c1V, c2V, cfV⟩ := V.out.facts
    go_wp2_with fail
    refine (HS.out _ _ V.out.tm).mono ?_
    rintro e u13 ⟨rfl, hb⟩
    clear zV c0V c1V c2V cfV
    replace V := tuck (V.out.below hb)
    replace HB := tuck (bAfter HB.out hb)
    clear hb
    obtain ⟨zV, c0V, c1V, c2V, cfV⟩ := V.out.facts
    go_wp2_with fail
    go_ret
    exact ⟨rfl, HB.out⟩
  obtain ⟨m, hm⟩ : ∃ m : Nat, T.most 0 = m := ⟨(T.most 0).toNat, by have := T.most_ge 0; omega⟩
  have hm1 : m ≤ 21 := by have := most_valid hv; omega
  have e1 : maxFreeOf T = m := by unfold maxFreeOf; rw [if_pos hv, hm]
  rw [e1] at HI HS
  have hren : T.rename (fun i => i) 0 = T := Tm.rename_same fun _ _ _ => rfl
  have hok : RenameOk T m (fun i => i) := ⟨hv, hm1, fun i hi => by show 0 ≤ (i : Int) ∧ (i : Int) ≤ 20; omega, by omega, by rw [hren]; exact hv⟩
  have HR : Hid (∀ (w : World) (v nv : Value), TmIn w 0 T v → Ints w 0 (fun i => i) m nv → Calls Try.prog 29 #[v, nv] w (PairPost w T true)) := fun w v nv h hn => by
    have h2 := renI_p T (fun i => i) m w v nv h hn
    rwa [orZero_yes hok, tr_of hok, hren] at h2
  have HTT : Hid (∀ (w : World) (v1 v2 : Value), TmIn w 0 T v1 → TmIn w 0 T v2 → Calls Try.prog 18 #[v1, v2] w (BoolPost w true)) := same_v hv
  clear hv hm e1 hren hok
  refine (HI.out _ _ V.out.tm).mono ?_
  rintro e u1 ⟨rfl, hb⟩
  replace V := tuck (V.out.below hb)
  replace HB := tuck (bAfter HB.out hb)
  clear hb
  obtain ⟨zV, c0V, c1V, c2V, cfV⟩ := V.out.facts
  go_wp2_with fail
  refine (HS.out _ _ V.out.tm).mono ?_
  rintro e u2 ⟨rfl, hb⟩
  clear zV c0V c1V c2V cfV
  replace V := tuck (V.out.below hb)
  replace HB := tuck (bAfter HB.out hb)
  clear hb
  have hnn : ¬ ((m : Int) < 0) := by omega
  obtain ⟨zV, c0V, c1V, c2V, cfV⟩ := V.out.facts
  go_wp2_with fail
  clear zV c0V c1V c2V cfV
  clear hnn HI HS
  have HB0 := tuck (below1 u2 (.cells #[] 3))
  have HO0 : Hid (OwnN u2.heap.size 0 (fun i => i) (.slice (some ⟨u2.heap.size, 0, none⟩) 0 0) (u2.alloc (.cells #[] 3))) := World.ownsRow_lit u2 #[] 0 (Nat.le_refl _) (by simp [maxLen]) (by simp)
  generalize u2.alloc (.cells #[] 3) = W0 at *
  go_loopw [5, 6] (fun v i wr => ∃ q : Nat, q ≤ m ∧ i = .int .i64 q ∧ OwnN u2.heap.size q (fun i => i) v wr ∧ Below u2.heap.size u2 wr) (fun _ i _ => m - (intOf i).toNat)
  case atStart => exact ⟨0, Nat.zero_le _, rfl, HO0.out, HB0.out⟩
  case round =>
    obtain ⟨q, hq, rfl, ho, hb⟩ := hrel
    have HO := tuck ho
    have HBR := tuck hb
    clear ho hb HO0 HB0
    by_cases hlt : q < m
    · have hlti : ((q : Int) < (m : Int)) := by omega
      have hzb : u2.heap.size ≤ wr.heap.size := HBR.out.size
      obtain ⟨i0, hi, hz0, hz1, hz2⟩ := info_parts info_int
      go_wp2_with (at_builtin; refine wpList_append_own _ rfl _ _ 40 rfl u2.heap.size 3 i0 (.int .i64 0) 1 8 Try.underlying40 hi hz0 hz1 hz2 rfl (by decide) _ _ _ rfl (World.ownsRow.alloc HO.out _) ⟨_, 0, none⟩ 1 1 [.int .i64 q] rfl rfl (cell_one_new _ _ _) (by intro u hu; simp at hu; subst hu; rfl) (by unfold maxLen; omega) (by omega) (by simp; omega) ?_; intro vN wN hownN hgrowN _)
      have HO' : Hid (OwnN u2.heap.size (q + 1) (fun i => i) vN wN) := OwnN.push hownN
      have HBR' : Hid (Below u2.heap.size u2 wN) := HO.out.after HBR.out hzb hgrowN
      clear hownN hgrowN
      go_wp2_with fail
      go_roundw
      case rel => exact ⟨q + 1, by omega, by go_num, HO'.out, HBR'.out⟩
      case measure => simp [intOf]; omega
    · have hge2 : ¬ ((q : Int) < (m : Int)) := by omega
      have e : q = m := by omega
      subst e
      replace V := tuck (V.out.below HBR.out)
      replace HB := tuck (bAfter HB.out HBR.out)
      have HNI := tuck HO.out.ints
      clear HBR HO
      obtain ⟨zV, c0V, c1V, c2V, cfV⟩ := V.out.facts
      go_wp2_with fail
      refine (HR.out _ _ _ V.out.tm HNI.out).mono ?_
      rintro e u3 ⟨hb, vv, rfl, ss, rfl, hin⟩
      obtain ⟨aVY, cVY, rfl⟩ := hin.form
      clear zV c0V c1V c2V cfV
      replace V := tuck (V.out.below hb)
      replace HB := tuck (bAfter HB.out hb)
      have HNVY := tuck hin
      clear hb hin
      obtain ⟨zV, c0V, c1V, c2V, cfV⟩ := V.out.facts
      go_wp2_with fail
      clear zV c0V c1V c2V cfV
      have VY := tuck (TV.new HNVY.out)
      have hb := below1 u3 (.cells #[.int .i64 T.kind, .int .i64 T.num, .slice aVY T.kids.length cVY] 25)
      replace V := tuck (V.out.below hb)
      replace HB := tuck (bAfter HB.out hb)
      clear hb HNVY
      generalize u3.alloc (.cells #[.int .i64 T.kind, .int .i64 T.num, .slice aVY T.kids.length cVY] 25) = U3 at *
      generalize u3.heap.size = gVY at *
      refine (HTT.out _ _ _ VY.out.tm V.out.tm).mono ?_
      rintro e u4 ⟨rfl, hb⟩
      replace V := tuck (V.out.below hb)
      replace VY := tuck (VY.out.below hb)
      replace HB := tuck (bAfter HB.out hb)
      clear hb
      obtain ⟨zV, c0V, c1V, c2V, cfV⟩ := V.out.facts
      obtain ⟨zVY, c0VY, c1VY, c2VY, cfVY⟩ := VY.out.facts
      go_wp2_with fail
      go_ret
      exact ⟨rfl, HB.out⟩

set_option maxRecDepth 100000 in
theorem lifted (os : Os) (started : os.Started) (H : Type) (enc : TypeId × Value → H) :
    ReturnsInHanded {} Try.checked os 13 .any (Rows.fnRenameSameSpec.pre6 enc Try.prog Try.f13 Rows.fnRenameSameRow.domain false) (Rows.fnRenameSameSpec.post enc Try.prog Try.f13 false true false false) := by
  refine returnsInHanded_of_change (C := Try.checked) own started (by kernel_rfl) Try.func13
    (ChangeSpec.witness6 (enc := enc) (C := Try.checked) false ⟨#[], #[.slice none 0 0], []⟩ 8 (by kernel_rfl) (by kernel_rfl) (by kernel_rfl) (by kernel_rfl)) ?_
  intro W base args ds gs before hval0 hW hcnd _
  have hval : ∀ (j : Nat) t v, Try.f13.params[j]? = some t → args[j]? = some v → Value.okWide Try.prog W .any base t v := hval0
  have hW' := hW
  obtain ⟨p, q, hA0, hV, rfl, hfz, hnd⟩ := hW
  have hA : DataW.TrodAll enc Try.prog W 0 (fun _ => true) true Try.f13.params.toList args.toList ds p := hA0
  rw [Try.params13] at hA hval
  obtain ⟨v0, vs0, d0, ds0, p0, q0, hargs, rfl, rfl, h0, r0⟩ := trodAll_cons hA
  obtain ⟨rfl, rfl, rfl⟩ := trodAll_nil r0
  obtain rfl : args = #[v0] := by cases args; simp_all
  obtain ⟨U0, ad0, bb0, oo0, len0, cap0, rfl, hlc0, hcm0, hbl0, hby0⟩ := open_bytes (hval 0 22 v0 rfl rfl) h0
  refine (walk U0 ad0 bb0 oo0 len0 cap0 W hlc0 hcm0 hby0).mono fun e W' ⟨he, hb⟩ => ?_
  subst he
  exact ⟨_, rfl, law_post rfl rfl (fun gs h => by subst h; rfl) (by rw [Try.params13]; exact readable_FnRenameSame) laid hW' hb⟩

theorem over : Rows.fnRenameSameRow.holds Try.pinned (OpenSpec.ofChange Rows.fnRenameSameSpec) :=
  OpenClaim.holds_of_wide 13 Try.f13 rfl rfl rfl rfl rfl rfl rfl ⟨rfl, rfl, rfl, rfl, rfl⟩ rfl rfl rfl rfl rfl (by kernel_rfl) Try.func13 (by kernel_rfl)
    (of_decide_eq_true (by kernel_rfl)) (by unfold Func.isWrapper; first | (rw [if_pos (by decide +kernel)]; kernel_rfl) | (rw [if_neg (by decide +kernel)]; exact ⟨rfl, rfl⟩))
    (fun os started H enc _ => lifted os started H enc)

theorem proved : Rows.FnRenameSameSaid :=
  over
end Go.Proofs.Ytmihfbopahoejaa.fnRenameSame
