/-
  The law FnNumeralOrder: whatever the bytes, a smaller number's numeral is a part of a greater one's.
-/
import Derived.Test.YtjhjnkeildeedaaDrawNum
import Derived.Test.YtjhjnkeildeedaaOpenB
import Derived.Test.YtjhjnkeildeedaaSNum
import Derived.Test.YtjhjnkeildeedaaNumT
import Derived.Test.YtjhjnkeildeedaaSame
namespace Go.Proofs.Ytjhjnkeildeedaa.fnNumeralOrder
open Go.ChangeShapes Go.WideShapes Go.ChangeAt Go.RowKit Go.Deep
set_option linter.unusedVariables false

theorem readable_FnNumeralOrder : ∀ t ∈ (#[38, 38] : Array TypeId).toList, Try.prog.readableRec t = true ∧ t < Try.prog.types.size := by
  intro t ht
  simp at ht
  subst ht
  exact ⟨by kernel_rfl, of_decide_eq_true (by kernel_rfl)⟩
theorem laid : laidOutB Try.prog = true := by kernel_rfl

set_option maxRecDepth 100000 in
/-- The walk. -/
theorem walk (U : Nat → Int) (a : Option Addr) (b o len cap : Nat) (w : World) (hlc : len ≤ cap) (hcm : cap ≤ maxLen) (hby : Bytes U a b o len w) (a2 : Option Addr) (len2 cap2 : Nat) (hl2 : len2 ≤ maxLen) : Calls Try.prog 11 #[.slice a len cap, .slice a2 len2 cap2] w fun e w' => e = .returned (.bool true) ∧ Below w.heap.size w w' := by
  unfold maxLen at hcm hl2
  by_cases hl : 1048576 < len
  · have hl' : (1048576 : Int) < (len : Int) := by omega
    clear hby
    go_enter Try.func11, Try.ntmps11
    go_wp2
    go_ret
    exact ⟨rfl, Below.refl _ _⟩
  have hl' : ¬ (1048576 : Int) < (len : Int) := by omega
  by_cases hl3 : 1048576 < len2
  · have hl3' : (1048576 : Int) < (len2 : Int) := by omega
    clear hby
    go_enter Try.func11, Try.ntmps11
    go_wp2
    go_ret
    exact ⟨rfl, Below.refl _ _⟩
  have hl3' : ¬ (1048576 : Int) < (len2 : Int) := by omega
  have HD := tuck (drawNum_any w (by omega) hlc hby)
  clear hby
  go_enter Try.func11, Try.ntmps11
  go_wp2_with fail
  refine HD.out.mono ?_
  rintro e w1 ⟨n, rfl, hb⟩
  have HB := tuck hb
  clear hb HD
  by_cases hn : 0 ≤ n ∧ n ≤ 20
  rotate_left
  · have HIM : Hid (∀ w : World, Calls Try.prog 25 #[.int .i64 n] w fun e w' => Below w.heap.size w w' ∧ ∃ v, e = .returned (.tuple #[v, .bool false]) ∧ Made w.heap.size (.mk 0 0 []) v w') := fun w => (numI_any n w).mono fun _ _ h => by
      obtain ⟨h1, v, h2, h3⟩ := h
      rw [show decide (0 ≤ n ∧ n ≤ 20) = false by simpa using hn] at h2
      rw [if_neg hn] at h3
      exact ⟨h1, v, h2, h3⟩
    have HSP : Hid (∀ w : World, Calls Try.prog 24 #[.int .i64 n] w fun e w' => Below w.heap.size w w' ∧ ∃ v, e = .returned (.tuple #[v, .bool false]) ∧ TmIn w' 0 (.mk 0 0 []) v) := fun w => (numS_any n w).mono fun _ _ h => by
      obtain ⟨h1, v, h2, h3⟩ := h
      rw [show decide (0 ≤ n ∧ n ≤ 20) = false by simpa using hn] at h2
      rw [if_neg hn] at h3
      exact ⟨h1, v, h2, h3⟩
    have HTS : Hid (∀ (w : World) (v1 v2 : Value), TmIn w 0 (.mk 0 0 []) v1 → TmIn w 0 (.mk 0 0 []) v2 → Calls Try.prog 27 #[v1, v2] w (BoolPost w true)) := fun w v1 v2 h1 h2 => by
      have := termSame_any (.mk 0 0 []) (.mk 0 0 []) w v1 v2 (Or.inr rfl) h1 h2
      rwa [same_self] at this
    clear hn
    go_wp2_with fail
    refine (HIM.out _).mono ?_
    rintro e w2 ⟨hb, v, rfl, s, F, rfl, hown, _, _⟩
    obtain ⟨sa, sc, rfl⟩ := hown.form
    have HIN := tuck (hown.sl (B := 0) (fun _ _ => Nat.zero_le _))
    replace HB := tuck (bAfter HB.out hb)
    clear hb hown
    go_wp2_with fail
    refine (HSP.out _).mono ?_
    rintro e w3 ⟨hb, v, rfl, s', rfl, hin'⟩
    obtain ⟨sa', sc', rfl⟩ := hin'.form
    have V4 := tuck ((VarAt.new w2 0 0 (.slice sa 0 sc)).below hb)
    replace HIN := tuck ((HIN.out.below (below1 _ _)).below hb)
    replace HB := tuck (bAfter HB.out (bAfter (below1 _ _) hb))
    have HIN' := tuck hin'
    clear hb hin'
    obtain ⟨z4, a0, a1, a2, af⟩ := V4.out.facts
    go_wp2_with fail
    refine (HTS.out _ _ _ ⟨_, rfl, HIN.out.below (below1 _ _)⟩ ⟨_, rfl, HIN'.out.below (below1 _ _)⟩).mono ?_
    rintro e w4 ⟨rfl, hb⟩
    have V4' := tuck ((V4.out.below (below1 _ _)).below hb)
    have V6 := tuck ((VarAt.new w3 0 0 (.slice sa' 0 sc')).below hb)
    have HI4 := tuck ((HIN.out.below (below1 _ _)).below hb)
    have HI6 := tuck ((HIN'.out.below (below1 _ _)).below hb)
    have HB4 := tuck (bAfter HB.out (bAfter (below1 _ _) hb))
    clear hb z4 a0 a1 a2 af
    obtain ⟨y4, b0, b1, b2, bf⟩ := V4'.out.facts
    obtain ⟨y6, c0, c1, c2, cf⟩ := V6.out.facts
    go_wp2_with fail
    refine (HTS.out _ _ _ ⟨_, rfl, HI4.out⟩ ⟨_, rfl, HI6.out⟩).mono ?_
    rintro e w5 ⟨rfl, hb⟩
    have HB5 := tuck (bAfter HB4.out hb)
    clear hb
    go_wp2_with fail
    go_ret
    exact ⟨rfl, HB5.out⟩
  obtain ⟨m, rfl⟩ : ∃ m : Nat, n = m := ⟨n.toNat, by omega⟩
  have hm : m ≤ 20 := by omega
  have hv := valid_numT hm
  have HIM : Hid (∀ w : World, Calls Try.prog 25 #[.int .i64 m] w fun e w' => Below w.heap.size w w' ∧ ∃ v, e = .returned (.tuple #[v, .bool true]) ∧ Made w.heap.size (numT m) v w') := fun w => (numI_any m w).mono fun _ _ h => by
    obtain ⟨h1, v, h2, h3⟩ := h
    rw [show decide ((0 : Int) ≤ m ∧ (m : Int) ≤ 20) = true by simpa using hn] at h2
    rw [if_pos hn, Int.toNat_natCast] at h3
    exact ⟨h1, v, h2, h3⟩
  have HSP : Hid (∀ w : World, Calls Try.prog 24 #[.int .i64 m] w fun e w' => Below w.heap.size w w' ∧ ∃ v, e = .returned (.tuple #[v, .bool true]) ∧ TmIn w' 0 (numT m) v) := fun w => (numS_any m w).mono fun _ _ h => by
    obtain ⟨h1, v, h2, h3⟩ := h
    rw [show decide ((0 : Int) ≤ m ∧ (m : Int) ≤ 20) = true by simpa using hn] at h2
    rw [if_pos hn, Int.toNat_natCast] at h3
    exact ⟨h1, v, h2, h3⟩
  have HTS : Hid (∀ (w : World) (v1 v2 : Value), TmIn w 0 (numT m) v1 → TmIn w 0 (numT m) v2 → Calls Try.prog 27 #[v1, v2] w (BoolPost w true)) := fun w v1 v2 h1 h2 => by
    have := termSame_any (numT m) (numT m) w v1 v2 (Or.inl hv) h1 h2
    rwa [same_self] at this
  have HIK : Hid (∀ (k : Nat), k ≤ 20 → ∀ w : World, Calls Try.prog 25 #[.int .i64 k] w fun e w' => Below w.heap.size w w' ∧ ∃ v, e = .returned (.tuple #[v, .bool true]) ∧ Made w.heap.size (numT k) v w') := fun k hk w => (numI_any k w).mono fun _ _ h => by
    have hn2 : (0 : Int) ≤ k ∧ (k : Int) ≤ 20 := by omega
    obtain ⟨h1, v, h2, h3⟩ := h
    rw [show decide ((0 : Int) ≤ k ∧ (k : Int) ≤ 20) = true by simpa using hn2] at h2
    rw [if_pos hn2, Int.toNat_natCast] at h3
    exact ⟨h1, v, h2, h3⟩
  have HTK : Hid (∀ (k : Nat), k ≤ 20 → ∀ (w : World) (v1 v2 : Value), TmIn w 0 (numT k) v1 → TmIn w 0 (numT k) v2 → Calls Try.prog 27 #[v1, v2] w (BoolPost w true)) := fun k hk w v1 v2 h1 h2 => by
    have := termSame_any (numT k) (numT k) w v1 v2 (Or.inl (valid_numT hk)) h1 h2
    rwa [same_self] at this
  clear hn hv
  go_wp2_with fail
  refine (HIM.out _).mono ?_
  rintro e w2 ⟨hb, v, rfl, s, F, rfl, hown, _, _⟩
  obtain ⟨sa, sc, rfl⟩ := hown.form
  have HIN := tuck (hown.sl (B := 0) (fun _ _ => Nat.zero_le _))
  replace HB := tuck (bAfter HB.out hb)
  clear hb hown
  go_wp2_with fail
  refine (HSP.out _).mono ?_
  rintro e w3 ⟨hb, v, rfl, s', rfl, hin'⟩
  obtain ⟨sa', sc', rfl⟩ := hin'.form
  have V4 := tuck ((VarAt.new w2 (numT m).kind (numT m).num (.slice sa (numT m).kids.length sc)).below hb)
  have HW := tuck (bAfter (below1 w2 (.cells #[.int .i64 (numT m).kind, .int .i64 (numT m).num, .slice sa (numT m).kids.length sc] 32)) hb)
  have HIN' := tuck hin'
  clear hb hin'
  obtain ⟨z4, a0, a1, a2', af⟩ := V4.out.facts
  go_wp2_with fail
  refine (HTS.out _ _ _ ⟨_, rfl, HIN.out.below (bAfter HW.out (below1 _ _))⟩ ⟨_, rfl, HIN'.out.below (below1 _ _)⟩).mono ?_
  rintro e w4 ⟨rfl, hb⟩
  replace V4 := tuck ((V4.out.below (below1 _ _)).below hb)
  replace HW := tuck (bAfter (bAfter HW.out (below1 _ _)) hb)
  clear hb z4 a0 a1 a2' af HIN'
  obtain ⟨y4, b0, b1, b2, bf⟩ := V4.out.facts
  have hm1 : (0 : Int) ≤ (m : Int) + 1 := by omega
  have hk0 : (0 : Int) ≤ (len2 : Int) % ((m : Int) + 1) := Int.emod_nonneg _ (by omega)
  have hk1 : (len2 : Int) % ((m : Int) + 1) < (m : Int) + 1 := Int.emod_lt_of_pos _ (by omega)
  obtain ⟨k, hk⟩ : ∃ k : Nat, (len2 : Int) % ((m : Int) + 1) = k := ⟨((len2 : Int) % ((m : Int) + 1)).toNat, by omega⟩
  rw [hk] at hk0 hk1
  have hkm : k ≤ m := by omega
  go_wp2_with fail
  rw [hk]
  clear hk hk0 hk1
  go_loopw [11] (fun i wr => ∃ (q : Nat) (xa : Option Addr) (xc : Nat), q ≤ m - k ∧ i = .int .i64 q ∧ Below w2.heap.size w2 wr ∧ VarAt w2.heap.size (numT (m - q)).kind (numT (m - q)).num (.slice xa (numT (m - q)).kids.length xc) wr ∧ SlIn w2 0 (numT (m - q)).kids (.slice xa (numT (m - q)).kids.length xc)) (fun i _ => m - k - (intOf i).toNat)
  case atStart => exact ⟨0, sa, sc, by omega, rfl, HW.out, V4.out, HIN.out⟩
  case round =>
    obtain ⟨q, xa, xc, hq, rfl, hbw, hv, hx⟩ := hrel
    obtain ⟨z4, a0, a1, a2', af⟩ := hv.facts
    have HBW := tuck hbw
    have HVR := tuck hv
    have HX := tuck hx
    clear hbw hv hx y4 b0 b1 b2 bf
    by_cases hlt : q < m - k
    · have hlti : ((q : Int) < (m : Int) - (k : Int)) := by omega
      obtain ⟨r, hr⟩ : ∃ r, m - q = r + 1 := ⟨m - q - 1, by omega⟩
      have hr2 : m - (q + 1) = r := by omega
      rw [hr] at a0 a1 a2' HX HVR
      obtain ⟨xa', xc', b', o', e, hl4, hp, hc⟩ := HX.out.open
      injection e with e1 e2 e3
      subst e1 e3
      obtain ⟨rfl, _, hbw⟩ := hp (by simp [numT, Tm.kids])
      obtain ⟨s, c0, c1, c2, hs⟩ := hc 0 (by simp [numT, Tm.kids])
      obtain ⟨ya, yc, rfl⟩ := hs.form
      replace c0 := (HBW.out.cell (p := ⟨b', o' + 0 * 3, none⟩) hbw).trans c0
      replace c1 := (HBW.out.cell (p := ⟨b', o' + 0 * 3 + 1, none⟩) hbw).trans c1
      replace c2 := (HBW.out.cell (p := ⟨b', o' + 0 * 3 + 2, none⟩) hbw).trans c2
      simp only [numT, Tm.kids, Tm.kind, Tm.num, Nat.zero_mul, Nat.add_zero, List.getElem_cons_zero, List.length_cons, List.length_nil, Nat.zero_add] at a0 a1 a2' c0 c1 c2 hs
      have hbr : b' < wr.heap.size := World.block_lt_of_cell? wr _ c0
      have HYS := tuck hs
      have HR2 := tuck hr2
      clear hs hc hp hr hr2
      go_wp2_with fail
      go_roundw
      case rel => exact ⟨q + 1, ya, yc, by omega, by go_num, bSet3 HBW.out (Nat.le_refl _) _ _ _ _ _ _, by rw [HR2.out]; exact HVR.out.set, by rw [HR2.out]; exact HYS.out⟩
      case measure => simp [intOf]; omega
    · have hge2 : ¬ ((q : Int) < (m : Int) - (k : Int)) := by omega
      have e : m - q = k := by omega
      rw [e] at a0 a1 a2' HX HVR
      clear e
      have HIKK := tuck (HIK.out k (by omega))
      have HTKK := tuck (HTK.out k (by omega))
      go_wp2_with fail
      refine (HIKK.out _).mono ?_
      rintro e w5 ⟨hb, v, rfl, s5, F5, rfl, hown, _, _⟩
      obtain ⟨sa5, sc5, rfl⟩ := hown.form
      have HIN5 := tuck (hown.sl (B := 0) (fun _ _ => Nat.zero_le _))
      replace HBW := tuck (bAfter HBW.out hb)
      replace HVR := tuck (HVR.out.below hb)
      clear hb hown z4 a0 a1 a2' af
      obtain ⟨z4, a0, a1, a2', af⟩ := HVR.out.facts
      go_wp2_with fail
      refine (HTKK.out _ _ _ ⟨_, rfl, HX.out.below (bAfter HBW.out (below1 _ _))⟩ ⟨_, rfl, HIN5.out.below (below1 _ _)⟩).mono ?_
      rintro e w6 ⟨rfl, hb⟩
      replace HBW := tuck (bAfter (bAfter HBW.out (below1 _ _)) hb)
      clear hb
      go_wp2_with fail
      go_ret
      exact ⟨rfl, bAfter HB.out HBW.out⟩

set_option maxRecDepth 100000 in
theorem lifted (os : Os) (started : os.Started) (H : Type) (enc : TypeId × Value → H) :
    ReturnsInHanded {} Try.checked os 11 .any (Rows.fnNumeralOrderSpec.pre6 enc Try.prog Try.f11 Rows.fnNumeralOrderRow.domain false) (Rows.fnNumeralOrderSpec.post enc Try.prog Try.f11 false true false false) := by
  refine returnsInHanded_of_change (C := Try.checked) own started (by kernel_rfl) Try.func11
    (ChangeSpec.witness6 (enc := enc) (C := Try.checked) false ⟨#[], #[.slice none 0 0, .slice none 0 0], []⟩ 8 (by kernel_rfl) (by kernel_rfl) (by kernel_rfl) (by kernel_rfl)) ?_
  intro W base args ds gs before hval0 hW hcnd _
  have hval : ∀ (j : Nat) t v, Try.f11.params[j]? = some t → args[j]? = some v → Value.okWide Try.prog W .any base t v := hval0
  have hW' := hW
  obtain ⟨p, q, hA0, hV, rfl, hfz, hnd⟩ := hW
  have hA : DataW.TrodAll enc Try.prog W 0 (fun _ => true) true Try.f11.params.toList args.toList ds p := hA0
  rw [Try.params11] at hA hval
  obtain ⟨v0, vs0, d0, ds0, p0, q0, hargs, rfl, rfl, h0, r0⟩ := trodAll_cons hA
  obtain ⟨v1, vs1, d1, ds1, p1, q1, rfl, rfl, rfl, h1, r1⟩ := trodAll_cons r0
  obtain ⟨rfl, rfl, rfl⟩ := trodAll_nil r1
  obtain rfl : args = #[v0, v1] := by cases args; simp_all
  obtain ⟨U0, ad0, bb0, oo0, len0, cap0, rfl, hlc0, hcm0, hbl0, hby0⟩ := open_bytes (hval 0 38 v0 rfl rfl) h0
  obtain ⟨U1, ad1, bb1, oo1, len1, cap1, rfl, hlc1, hcm1, hbl1, hby1⟩ := open_bytes (hval 1 38 v1 rfl rfl) h1
  refine (walk U0 ad0 bb0 oo0 len0 cap0 W hlc0 hcm0 hby0 ad1 len1 cap1 (Nat.le_trans hlc1 hcm1)).mono fun e W' ⟨he, hb⟩ => ?_
  subst he
  exact ⟨_, rfl, law_post rfl rfl (fun gs h => by subst h; rfl) (by rw [Try.params11]; exact readable_FnNumeralOrder) laid hW' hb⟩

theorem over : Rows.fnNumeralOrderRow.holds Try.pinned (OpenSpec.ofChange Rows.fnNumeralOrderSpec) :=
  OpenClaim.holds_of_wide 11 Try.f11 rfl rfl rfl rfl rfl rfl rfl ⟨rfl, rfl, rfl, rfl, rfl⟩ rfl rfl rfl rfl rfl (by kernel_rfl) Try.func11 (by kernel_rfl)
    (of_decide_eq_true (by kernel_rfl)) (by unfold Func.isWrapper; first | (rw [if_pos (by decide +kernel)]; kernel_rfl) | (rw [if_neg (by decide +kernel)]; exact ⟨rfl, rfl⟩))
    (fun os started H enc _ => lifted os started H enc)

theorem proved : Rows.FnNumeralOrderSaid :=
  over
end Go.Proofs.Ytjhjnkeildeedaa.fnNumeralOrder
