/-
  The law FnNumeral: whatever the bytes, a number is the value of its numeral, which has one node more.
-/
import Derived.Test.YtjhjnkeildeedaaDrawNum
import Derived.Test.YtjhjnkeildeedaaOpenB
import Derived.Test.YtjhjnkeildeedaaSNum
import Derived.Test.YtjhjnkeildeedaaNVal
import Derived.Test.YtjhjnkeildeedaaSame
import Derived.Test.YtjhjnkeildeedaaImplN
import Derived.Test.YtjhjnkeildeedaaImplD
namespace Go.Proofs.Ytjhjnkeildeedaa.fnNumeral
open Go.ChangeShapes Go.WideShapes Go.ChangeAt Go.RowKit Go.Deep
set_option linter.unusedVariables false

theorem readable_FnNumeral : ∀ t ∈ (#[38] : Array TypeId).toList, Try.prog.readableRec t = true ∧ t < Try.prog.types.size := by
  intro t ht
  simp at ht
  rcases ht with rfl
  exact ⟨by kernel_rfl, of_decide_eq_true (by kernel_rfl)⟩
theorem laid : laidOutB Try.prog = true := by kernel_rfl

set_option maxRecDepth 100000 in
/-- The walk. -/
theorem walk (U : Nat → Int) (a : Option Addr) (b o len cap : Nat) (w : World) (hlc : len ≤ cap) (hcm : cap ≤ maxLen) (hby : Bytes U a b o len w) : Calls Try.prog 9 #[.slice a len cap] w fun e w' => e = .returned (.bool true) ∧ Below w.heap.size w w' := by
  unfold maxLen at hcm
  by_cases hl : 1048576 < len
  · have hl' : (1048576 : Int) < (len : Int) := by omega
    clear hby
    go_enter Try.func9, Try.ntmps9
    go_wp2
    go_ret
    exact ⟨rfl, Below.refl _ _⟩
  have hl' : ¬ (1048576 : Int) < (len : Int) := by omega
  have HD := tuck (drawNum_any w (by omega) hlc hby)
  clear hby
  go_enter Try.func9, Try.ntmps9
  go_wp2_with fail
  refine HD.out.mono ?_
  rintro e w1 ⟨n, rfl, hb⟩
  have HB := tuck hb
  clear hb HD
  by_cases hn : 0 ≤ n ∧ n ≤ 20
  rotate_left
  · have HIM : Hid (∀ w : World, Calls Try.prog 25 #[.int .i64 n] w fun e w' => Below w.heap.size w w' ∧ ∃ v, e = .returned (.tuple #[v, .bool false]) ∧ Made w.heap.size (.mk 0 0 []) v w') := fun w => (numI_any n w).mono fun _ _ h => by
      obtain ⟨h1, v, h2, h3⟩ := h
      rw [show decide (0 ≤ n ∧ n ≤ 20) = false by simpa using hn] at h2
      rw [if_neg hn] at h3
      exact ⟨h1, v, h2, h3⟩
    have HSP : Hid (∀ w : World, Calls Try.prog 24 #[.int .i64 n] w fun e w' => Below w.heap.size w w' ∧ ∃ v, e = .returned (.tuple #[v, .bool false]) ∧ TmIn w' 0 (.mk 0 0 []) v) := fun w => (numS_any n w).mono fun _ _ h => by
      obtain ⟨h1, v, h2, h3⟩ := h
      rw [show decide (0 ≤ n ∧ n ≤ 20) = false by simpa using hn] at h2
      rw [if_neg hn] at h3
      exact ⟨h1, v, h2, h3⟩
    have HTS : Hid (∀ (w : World) (v1 v2 : Value), TmIn w 0 (.mk 0 0 []) v1 → TmIn w 0 (.mk 0 0 []) v2 → Calls Try.prog 27 #[v1, v2] w (BoolPost w true)) := fun w v1 v2 h1 h2 => by
      have := termSame_any (.mk 0 0 []) (.mk 0 0 []) w v1 v2 (Or.inr rfl) h1 h2
      rwa [same_self] at this
    clear hn
    go_wp2_with fail
    refine (HIM.out _).mono ?_
    rintro e w2 ⟨hb, v, rfl, s, F, rfl, hown, _, _⟩
    obtain ⟨sa, sc, rfl⟩ := hown.form
    have HIN := tuck (hown.sl (B := 0) (fun _ _ => Nat.zero_le _))
    replace HB := tuck (bAfter HB.out hb)
    clear hb hown
    go_wp2_with fail
    refine (HSP.out _).mono ?_
    rintro e w3 ⟨hb, v, rfl, s', rfl, hin'⟩
    obtain ⟨sa', sc', rfl⟩ := hin'.form
    have V4 := tuck ((VarAt.new w2 0 0 (.slice sa 0 sc)).below hb)
    replace HIN := tuck ((HIN.out.below (below1 _ _)).below hb)
    replace HB := tuck (bAfter HB.out (bAfter (below1 _ _) hb))
    have HIN' := tuck hin'
    clear hb hin'
    obtain ⟨z4, a0, a1, a2, af⟩ := V4.out.facts
    go_wp2_with fail
    refine (HTS.out _ _ _ ⟨_, rfl, HIN.out.below (below1 _ _)⟩ ⟨_, rfl, HIN'.out.below (below1 _ _)⟩).mono ?_
    rintro e w4 ⟨rfl, hb⟩
    have V4' := tuck ((V4.out.below (below1 _ _)).below hb)
    have V6 := tuck ((VarAt.new w3 0 0 (.slice sa' 0 sc')).below hb)
    have HI4 := tuck ((HIN.out.below (below1 _ _)).below hb)
    have HI6 := tuck ((HIN'.out.below (below1 _ _)).below hb)
    have HB4 := tuck (bAfter HB.out (bAfter (below1 _ _) hb))
    clear hb z4 a0 a1 a2 af
    obtain ⟨y4, b0, b1, b2, bf⟩ := V4'.out.facts
    obtain ⟨y6, c0, c1, c2, cf⟩ := V6.out.facts
    go_wp2_with fail
    refine (HTS.out _ _ _ ⟨_, rfl, HI4.out⟩ ⟨_, rfl, HI6.out⟩).mono ?_
    rintro e w5 ⟨rfl, hb⟩
    have HB5 := tuck (bAfter HB4.out hb)
    clear hb
    go_wp2_with fail
    go_ret
    exact ⟨rfl, HB5.out⟩
  obtain ⟨m, rfl⟩ : ∃ m : Nat, n = m := ⟨n.toNat, by omega⟩
  have hm : m ≤ 20 := by omega
  obtain ⟨hk1, hk2⟩ := nok_yes hm (rfl : numT m = numT m)
  have hv := valid_numT hm
  have HIM : Hid (∀ w : World, Calls Try.prog 25 #[.int .i64 m] w fun e w' => Below w.heap.size w w' ∧ ∃ v, e = .returned (.tuple #[v, .bool true]) ∧ Made w.heap.size (numT m) v w') := fun w => (numI_any m w).mono fun _ _ h => by
    obtain ⟨h1, v, h2, h3⟩ := h
    rw [show decide ((0 : Int) ≤ m ∧ (m : Int) ≤ 20) = true by simpa using hn] at h2
    rw [if_pos hn, Int.toNat_natCast] at h3
    exact ⟨h1, v, h2, h3⟩
  have HSP : Hid (∀ w : World, Calls Try.prog 24 #[.int .i64 m] w fun e w' => Below w.heap.size w w' ∧ ∃ v, e = .returned (.tuple #[v, .bool true]) ∧ TmIn w' 0 (numT m) v) := fun w => (numS_any m w).mono fun _ _ h => by
    obtain ⟨h1, v, h2, h3⟩ := h
    rw [show decide ((0 : Int) ≤ m ∧ (m : Int) ≤ 20) = true by simpa using hn] at h2
    rw [if_pos hn, Int.toNat_natCast] at h3
    exact ⟨h1, v, h2, h3⟩
  have HTS : Hid (∀ (w : World) (v1 v2 : Value), TmIn w 0 (numT m) v1 → TmIn w 0 (numT m) v2 → Calls Try.prog 27 #[v1, v2] w (BoolPost w true)) := fun w v1 v2 h1 h2 => by
    have := termSame_any (numT m) (numT m) w v1 v2 (Or.inl hv) h1 h2
    rwa [same_self] at this
  have HNV : Hid (∀ (w : World) (v : Value), TmIn w 0 (numT m) v → Calls Try.prog 28 #[v] w fun e w' => e = .returned (.tuple #[.int .i64 m, .bool true]) ∧ Below w.heap.size w w') := fun w v h => (nvalI_any _ w v h).mono fun _ _ h => by
    obtain ⟨h1, h2⟩ := h
    rw [hk1, hk2] at h1
    exact ⟨h1, h2⟩
  have HCN : Hid (∀ (w : World) (v : Value), TmIn w 0 (numT m) v → Calls Try.prog 29 #[v] w (IntPost w ((m : Int) + 1))) := fun w v h => by
    have := nodesI_any _ w v h
    rwa [show nodesOf (numT m) = (m : Int) + 1 by unfold nodesOf; rw [if_pos hv, numT_size]; omega] at this
  have HTD : Hid (∀ (w : World) (v : Value), TmIn w 0 (numT m) v → Calls Try.prog 30 #[v] w (IntPost w ((m : Int) + 1))) := fun w v h => by
    have := depthI_any _ w v h
    rwa [show depthOf (numT m) = (m : Int) + 1 by unfold depthOf; rw [if_pos hv, hgt_numT]; omega] at this
  clear hn hk1 hk2 hv
  have hself : ((m : Int) == (m : Int)) = true := by simp
  have hself2 : ((m : Int) + 1 == (m : Int) + 1) = true := by simp
  go_wp2_with fail
  refine (HIM.out _).mono ?_
  rintro e w2 ⟨hb, v, rfl, s, F, rfl, hown, _, _⟩
  obtain ⟨sa, sc, rfl⟩ := hown.form
  have HIN := tuck (hown.sl (B := 0) (fun _ _ => Nat.zero_le _))
  replace HB := tuck (bAfter HB.out hb)
  clear hb hown
  generalize numT m = T at *
  go_wp2_with fail
  refine (HSP.out _).mono ?_
  rintro e w3 ⟨hb, v, rfl, s', rfl, hin'⟩
  obtain ⟨sa', sc', rfl⟩ := hin'.form
  have V4 := tuck ((VarAt.new w2 T.kind T.num (.slice sa T.kids.length sc)).below hb)
  replace HIN := tuck ((HIN.out.below (below1 _ _)).below hb)
  replace HB := tuck (bAfter HB.out (bAfter (below1 _ _) hb))
  have HIN' := tuck hin'
  clear hb hin'
  obtain ⟨z4, a0, a1, a2, af⟩ := V4.out.facts
  go_wp2_with fail
  refine (HTS.out _ _ _ ⟨_, rfl, HIN.out.below (below1 _ _)⟩ ⟨_, rfl, HIN'.out.below (below1 _ _)⟩).mono ?_
  rintro e w4 ⟨rfl, hb⟩
  have V4' := tuck ((V4.out.below (below1 _ _)).below hb)
  have HI4 := tuck ((HIN.out.below (below1 _ _)).below hb)
  have HB4 := tuck (bAfter HB.out (bAfter (below1 _ _) hb))
  clear hb z4 a0 a1 a2 af V4 HIN HIN' HB
  obtain ⟨y4, b0, b1, b2, bf⟩ := V4'.out.facts
  go_wp2_with fail
  refine (HNV.out _ _ ⟨_, rfl, HI4.out⟩).mono ?_
  rintro e w5 ⟨rfl, hb⟩
  replace V4' := tuck (V4'.out.below hb)
  replace HI4 := tuck (HI4.out.below hb)
  replace HB4 := tuck (bAfter HB4.out hb)
  clear hb y4 b0 b1 b2 bf
  obtain ⟨y4, b0, b1, b2, bf⟩ := V4'.out.facts
  go_wp2_with fail
  refine (HCN.out _ _ ⟨_, rfl, HI4.out⟩).mono ?_
  rintro e w6 ⟨rfl, hb⟩
  replace V4' := tuck (V4'.out.below hb)
  replace HI4 := tuck (HI4.out.below hb)
  replace HB4 := tuck (bAfter HB4.out hb)
  clear hb y4 b0 b1 b2 bf
  obtain ⟨y4, b0, b1, b2, bf⟩ := V4'.out.facts
  go_wp2_with fail
  refine (HTD.out _ _ ⟨_, rfl, HI4.out⟩).mono ?_
  rintro e w7 ⟨rfl, hb⟩
  replace HB4 := tuck (bAfter HB4.out hb)
  clear hb
  go_wp2_with fail
  go_ret
  exact ⟨rfl, HB4.out⟩

set_option maxRecDepth 100000 in
theorem lifted (os : Os) (started : os.Started) (H : Type) (enc : TypeId × Value → H) :
    ReturnsInHanded {} Try.checked os 9 .any (Rows.fnNumeralSpec.pre6 enc Try.prog Try.f9 Rows.fnNumeralRow.domain false) (Rows.fnNumeralSpec.post enc Try.prog Try.f9 false true false false) := by
  refine returnsInHanded_of_change (C := Try.checked) own started (by kernel_rfl) Try.func9
    (ChangeSpec.witness6 (enc := enc) (C := Try.checked) false ⟨#[], #[.slice none 0 0], []⟩ 8 (by kernel_rfl) (by kernel_rfl) (by kernel_rfl) (by kernel_rfl)) ?_
  intro W base args ds gs before hval0 hW hcnd _
  have hval : ∀ (j : Nat) t v, Try.f9.params[j]? = some t → args[j]? = some v → Value.okWide Try.prog W .any base t v := hval0
  have hW' := hW
  obtain ⟨p, q, hA0, hV, rfl, hfz, hnd⟩ := hW
  have hA : DataW.TrodAll enc Try.prog W 0 (fun _ => true) true Try.f9.params.toList args.toList ds p := hA0
  rw [Try.params9] at hA hval
  obtain ⟨v0, vs0, d0, ds0, p0, q0, hargs, rfl, rfl, h0, r0⟩ := trodAll_cons hA
  obtain ⟨rfl, rfl, rfl⟩ := trodAll_nil r0
  obtain rfl : args = #[v0] := by cases args; simp_all
  obtain ⟨U0, ad0, bb0, oo0, len0, cap0, rfl, hlc0, hcm0, hbl0, hby0⟩ := open_bytes (hval 0 38 v0 rfl rfl) h0
  refine (walk U0 ad0 bb0 oo0 len0 cap0 W hlc0 hcm0 hby0).mono fun e W' ⟨he, hb⟩ => ?_
  subst he
  exact ⟨_, rfl, law_post rfl rfl (fun gs h => by subst h; rfl) (by rw [Try.params9]; exact readable_FnNumeral) laid hW' hb⟩

theorem over : Rows.fnNumeralRow.holds Try.pinned (OpenSpec.ofChange Rows.fnNumeralSpec) :=
  OpenClaim.holds_of_wide 9 Try.f9 rfl rfl rfl rfl rfl rfl rfl ⟨rfl, rfl, rfl, rfl, rfl⟩ rfl rfl rfl rfl rfl (by kernel_rfl) Try.func9 (by kernel_rfl)
    (of_decide_eq_true (by kernel_rfl)) (by unfold Func.isWrapper; first | (rw [if_pos (by decide +kernel)]; kernel_rfl) | (rw [if_neg (by decide +kernel)]; exact ⟨rfl, rfl⟩))
    (fun os started H enc _ => lifted os started H enc)

theorem proved : Rows.FnNumeralSaid :=
  over
end Go.Proofs.Ytjhjnkeildeedaa.fnNumeral
