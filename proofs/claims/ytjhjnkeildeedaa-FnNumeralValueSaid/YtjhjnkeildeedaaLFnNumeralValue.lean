/-
  The law FnNumeralValue: whatever the bytes, a term with a value is the numeral of the value, and the number after it has the next value.
-/
import Derived.Test.YtjhjnkeildeedaaDrawsF
import Derived.Test.YtjhjnkeildeedaaVars
import Derived.Test.YtjhjnkeildeedaaNVal
import Derived.IntWalk
namespace Go.Proofs.Ytjhjnkeildeedaa.fnNumeralValue
open Go.ChangeShapes Go.WideShapes Go.ChangeAt Go.RowKit Go.Deep
set_option linter.unusedVariables false

theorem readable_FnNumeralValue : ∀ t ∈ (#[38] : Array TypeId).toList, Try.prog.readableRec t = true ∧ t < Try.prog.types.size := by
  intro t ht
  simp at ht
  subst ht
  exact ⟨by kernel_rfl, of_decide_eq_true (by kernel_rfl)⟩
theorem laid : laidOutB Try.prog = true := by kernel_rfl

set_option maxRecDepth 100000 in
set_option maxHeartbeats 1600000 in
theorem walk (U : Nat → Int) (a : Option Addr) (b o len cap : Nat) (w : World) (hlc : len ≤ cap) (hcm : cap ≤ maxLen) (hby : Bytes U a b o len w) : Calls Try.prog 10 #[.slice a len cap] w fun e w' => e = .returned (.bool true) ∧ Below w.heap.size w w' := by
  unfold maxLen at hcm
  by_cases hl : 1048576 < len
  · have hl' : (1048576 : Int) < (len : Int) := by omega
    clear hby
    go_enter Try.func10, Try.ntmps10
    go_wp2
    go_ret
    exact ⟨rfl, Below.refl _ _⟩
  have hl' : ¬ (1048576 : Int) < (len : Int) := by omega
  have HD := tuck (dNumeralValue_any w (by omega) hlc hby)
  clear hby
  go_enter Try.func10, Try.ntmps10
  go_wp2_with fail
  refine HD.out.mono ?_
  rintro e w1 ⟨T, v, rfl, ⟨s, rfl, hin⟩, hsz, hb⟩
  obtain ⟨aV, cV, rfl⟩ := hin.form
  have V := tuck (TV.new (hin.mono (Nat.zero_le _)))
  have HB := tuck (bAfter hb (below1 w1 (.cells #[.int .i64 T.kind, .int .i64 T.num, .slice aV T.kids.length cV] 32)))
  clear hin hb HD
  go_wp2_with fail
  generalize w1.alloc (.cells #[.int .i64 T.kind, .int .i64 T.num, .slice aV T.kids.length cV] 32) = U0 at *
  generalize w1.heap.size = gV at *
  by_cases hn : ∃ m : Nat, m ≤ 20 ∧ T = numT m
  rotate_left
  · have hnv := nok_no (t := T) (fun m hm e => hn ⟨m, hm, e⟩)
    have HI : Hid (∀ (w : World) (v : Value), TmIn w 0 T v → Calls Try.prog 28 #[v] w (fun e w' => e = .returned (.tuple #[.int .i64 0, .bool false]) ∧ Below w.heap.size w w')) := fun w v h => by
      have h2 := nvalI_any T w v h
      unfold NValPost at h2
      rwa [hnv.1, hnv.2] at h2
    have HS : Hid (∀ (w : World) (v : Value), TmIn w 0 T v → Calls Try.prog 32 #[v] w (fun e w' => e = .returned (.tuple #[.int .i64 0, .bool false]) ∧ Below w.heap.size w w')) := fun w v h => by
      have h2 := nvalS_any T w v h
      unfold NValPost at h2
      rwa [hnv.1, hnv.2] at h2
    clear hnv hn
    refine (HI.out _ _ V.out.tm).mono ?_
    rintro e u21 ⟨rfl, hb⟩
    replace V := tuck (V.out.below hb)
    replace HB := tuck (bAfter HB.out hb)
    clear hb
    obtain ⟨zV, c0V, c1V, c2V, cfV⟩ := V.out.facts
    go_wp2_with fail
    refine (HS.out _ _ V.out.tm).mono ?_
    rintro e u22 ⟨rfl, hb⟩
    clear zV c0V c1V c2V cfV
    replace V := tuck (V.out.below hb)
    replace HB := tuck (bAfter HB.out hb)
    clear hb
    obtain ⟨zV, c0V, c1V, c2V, cfV⟩ := V.out.facts
    go_wp2_with fail
    go_ret
    exact ⟨rfl, HB.out⟩
  obtain ⟨m, hm, hT⟩ := hn
  have hnv := nok_yes hm hT
  have HI : Hid (∀ (w : World) (v : Value), TmIn w 0 T v → Calls Try.prog 28 #[v] w (fun e w' => e = .returned (.tuple #[.int .i64 m, .bool true]) ∧ Below w.heap.size w w')) := fun w v h => by
    have h2 := nvalI_any T w v h
    unfold NValPost at h2
    rwa [hnv.1, hnv.2] at h2
  have HS : Hid (∀ (w : World) (v : Value), TmIn w 0 T v → Calls Try.prog 32 #[v] w (fun e w' => e = .returned (.tuple #[.int .i64 m, .bool true]) ∧ Below w.heap.size w w')) := fun w v h => by
    have h2 := nvalS_any T w v h
    unfold NValPost at h2
    rwa [hnv.1, hnv.2] at h2
  have HNU : Hid (∀ w : World, Calls Try.prog 25 #[.int .i64 m] w (PairPost w T true)) := fun w => (numI_any m w).mono fun _ _ h => by
    obtain ⟨h1, v, h2, h3⟩ := h
    have hn2 : (0 : Int) ≤ m ∧ (m : Int) ≤ 20 := by omega
    rw [show decide ((0 : Int) ≤ m ∧ (m : Int) ≤ 20) = true by simpa using hn2] at h2
    rw [if_pos hn2, Int.toNat_natCast, ← hT] at h3
    obtain ⟨s, F, hv, hs, -, -⟩ := h3
    exact ⟨h1, v, h2, s, hv, hs.sl fun _ _ => Nat.zero_le _⟩
  have hTV : T.Valid := by rw [hT]; exact valid_numT hm
  have HTT : Hid (∀ (w : World) (v1 v2 : Value), TmIn w 0 T v1 → TmIn w 0 T v2 → Calls Try.prog 27 #[v1, v2] w (BoolPost w true)) := same_v hTV
  have hsucc : Tm.mk 8 0 [T] = numT (m + 1) := by rw [hT]; rfl
  have HNX : Hid (∀ (w : World) (v : Value), SlIn w 0 [T] v → Calls Try.prog 28 #[.agg #[.int .i64 8, .int .i64 0, v]] w (fun e w' => e = .returned (.tuple #[.int .i64 (nval (numT (m + 1))), .bool (nok (numT (m + 1)))]) ∧ Below w.heap.size w w')) := fun w v h => by
    have h2 := nvalI_any (numT (m + 1)) w (.agg #[.int .i64 8, .int .i64 0, v]) ⟨v, by rw [← hsucc]; rfl, by rw [← hsucc]; exact h⟩
    exact h2
  have HQ : Hid ((m < 20 → nval (numT (m + 1)) = (m : Int) + 1 ∧ nok (numT (m + 1)) = true) ∧ (m = 20 → nval (numT (m + 1)) = 0 ∧ nok (numT (m + 1)) = false)) := tuck ⟨fun h => by
    have := nok_yes (t := numT (m + 1)) (m := m + 1) (by omega) rfl
    exact ⟨by rw [this.2]; omega, this.1⟩, fun h => by
    have := nok_no (t := numT (m + 1)) (fun k hk e => by have := numT_inj e; omega)
    exact ⟨this.2, this.1⟩⟩
  generalize nval (numT (m + 1)) = nv at *
  generalize nok (numT (m + 1)) = q at *
  clear hnv hT hTV hsucc
  refine (HI.out _ _ V.out.tm).mono ?_
  rintro e u1 ⟨rfl, hb⟩
  replace V := tuck (V.out.below hb)
  replace HB := tuck (bAfter HB.out hb)
  clear hb
  obtain ⟨zV, c0V, c1V, c2V, cfV⟩ := V.out.facts
  go_wp2_with fail
  refine (HS.out _ _ V.out.tm).mono ?_
  rintro e u2 ⟨rfl, hb⟩
  clear zV c0V c1V c2V cfV
  replace V := tuck (V.out.below hb)
  replace HB := tuck (bAfter HB.out hb)
  clear hb
  obtain ⟨zV, c0V, c1V, c2V, cfV⟩ := V.out.facts
  go_wp2_with fail
  refine (HNU.out _).mono ?_
  rintro e u3 ⟨hb, vv, rfl, ss, rfl, hin⟩
  obtain ⟨aVX, cVX, rfl⟩ := hin.form
  clear zV c0V c1V c2V cfV
  replace V := tuck (V.out.below hb)
  replace HB := tuck (bAfter HB.out hb)
  have HNVX := tuck hin
  clear hb hin
  obtain ⟨zV, c0V, c1V, c2V, cfV⟩ := V.out.facts
  go_wp2_with fail
  clear zV c0V c1V c2V cfV
  have hszX : (u3.alloc (.cells #[.int .i64 T.kind, .int .i64 T.num, .slice aVX T.kids.length cVX] 32)).heap.size = u3.heap.size + 1 := by simp
  have VX := tuck (TV.new HNVX.out)
  have hb := below1 u3 (.cells #[.int .i64 T.kind, .int .i64 T.num, .slice aVX T.kids.length cVX] 32)
  replace V := tuck (V.out.below hb)
  replace HB := tuck (bAfter HB.out hb)
  clear hb HNVX
  generalize u3.alloc (.cells #[.int .i64 T.kind, .int .i64 T.num, .slice aVX T.kids.length cVX] 32) = U8 at *
  generalize u3.heap.size = gVX at *
  have HROW : Hid (SlIn (U8.alloc (.cells #[.int .i64 T.kind, .int .i64 T.num, .slice aV T.kids.length cV] 32)) 0 [T] (.slice (some ⟨gVX + 1, 0, none⟩) 1 1)) := by
    rw [← hszX]
    refine ⟨some ⟨U8.heap.size, 0, none⟩, 1, U8.heap.size, 0, rfl, by simp [maxLen], fun _ => ⟨rfl, Nat.zero_le _⟩, ?_⟩
    have h := RowAt.of_list (w := U8.alloc (.cells #[.int .i64 T.kind, .int .i64 T.num, .slice aV T.kids.length cV] 32)) (B := 0) (r := [(T, .slice aV T.kids.length cV)]) (b := U8.heap.size) (o := 0) (fun j u hu => by
      rw [Nat.zero_add, World.cell?_alloc_new, ← hu]
      simp [cellsL]) (fun x hx => by
      simp only [List.mem_singleton] at hx; subst hx
      exact V.out.sl.below (below1 _ _))
    simpa using h
  refine (HNX.out _ _ HROW.out).mono ?_
  rintro e u90 ⟨rfl, hb⟩
  have hbx := bAfter (below1 U8 (.cells #[.int .i64 T.kind, .int .i64 T.num, .slice aV T.kids.length cV] 32)) hb
  replace V := tuck (V.out.below hbx)
  replace VX := tuck (VX.out.below hbx)
  replace HB := tuck (bAfter HB.out hbx)
  clear hbx hb HROW hszX HI HS HNU HNX
  by_cases h20 : m < 20
  · obtain ⟨e1, e2⟩ := HQ.out.1 h20
    subst e1 e2
    have h20d : decide ((m : Int) < 20) = true := by simp; omega
    have hmm : (((m : Int) + 1) == (m : Int) + 1) = true := by simp
    obtain ⟨zV, c0V, c1V, c2V, cfV⟩ := V.out.facts
    obtain ⟨zVX, c0VX, c1VX, c2VX, cfVX⟩ := VX.out.facts
    go_wp2_with fail
    refine (HTT.out _ _ _ VX.out.tm V.out.tm).mono ?_
    rintro e u101 ⟨rfl, hb⟩
    clear zV c0V c1V c2V cfV zVX c0VX c1VX c2VX cfVX
    replace V := tuck (V.out.below hb)
    replace VX := tuck (VX.out.below hb)
    replace HB := tuck (bAfter HB.out hb)
    clear hb
    obtain ⟨zV, c0V, c1V, c2V, cfV⟩ := V.out.facts
    obtain ⟨zVX, c0VX, c1VX, c2VX, cfVX⟩ := VX.out.facts
    go_wp2_with fail
    go_ret
    exact ⟨rfl, HB.out⟩
  · obtain ⟨e1, e2⟩ := HQ.out.2 (by omega)
    subst e1 e2
    have h20d : decide ((m : Int) < 20) = false := by simp; omega
    obtain ⟨zV, c0V, c1V, c2V, cfV⟩ := V.out.facts
    obtain ⟨zVX, c0VX, c1VX, c2VX, cfVX⟩ := VX.out.facts
    go_wp2_with fail
    refine (HTT.out _ _ _ VX.out.tm V.out.tm).mono ?_
    rintro e u121 ⟨rfl, hb⟩
    clear zV c0V c1V c2V cfV zVX c0VX c1VX c2VX cfVX
    replace V := tuck (V.out.below hb)
    replace VX := tuck (VX.out.below hb)
    replace HB := tuck (bAfter HB.out hb)
    clear hb
    obtain ⟨zV, c0V, c1V, c2V, cfV⟩ := V.out.facts
    obtain ⟨zVX, c0VX, c1VX, c2VX, cfVX⟩ := VX.out.facts
    go_wp2_with fail
    go_ret
    exact ⟨rfl, HB.out⟩

set_option maxRecDepth 100000 in
theorem lifted (os : Os) (started : os.Started) (H : Type) (enc : TypeId × Value → H) :
    ReturnsInHanded {} Try.checked os 10 .any (Rows.fnNumeralValueSpec.pre6 enc Try.prog Try.f10 Rows.fnNumeralValueRow.domain false) (Rows.fnNumeralValueSpec.post enc Try.prog Try.f10 false true false false) := by
  refine returnsInHanded_of_change (C := Try.checked) own started (by kernel_rfl) Try.func10
    (ChangeSpec.witness6 (enc := enc) (C := Try.checked) false ⟨#[], #[.slice none 0 0], []⟩ 8 (by kernel_rfl) (by kernel_rfl) (by kernel_rfl) (by kernel_rfl)) ?_
  intro W base args ds gs before hval0 hW hcnd _
  have hval : ∀ (j : Nat) t v, Try.f10.params[j]? = some t → args[j]? = some v → Value.okWide Try.prog W .any base t v := hval0
  have hW' := hW
  obtain ⟨p, q, hA0, hV, rfl, hfz, hnd⟩ := hW
  have hA : DataW.TrodAll enc Try.prog W 0 (fun _ => true) true Try.f10.params.toList args.toList ds p := hA0
  rw [Try.params10] at hA hval
  obtain ⟨v0, vs0, d0, ds0, p0, q0, hargs, rfl, rfl, h0, r0⟩ := trodAll_cons hA
  obtain ⟨rfl, rfl, rfl⟩ := trodAll_nil r0
  obtain rfl : args = #[v0] := by cases args; simp_all
  obtain ⟨U0, ad0, bb0, oo0, len0, cap0, rfl, hlc0, hcm0, hbl0, hby0⟩ := open_bytes (hval 0 38 v0 rfl rfl) h0
  refine (walk U0 ad0 bb0 oo0 len0 cap0 W hlc0 hcm0 hby0).mono fun e W' ⟨he, hb⟩ => ?_
  subst he
  exact ⟨_, rfl, law_post rfl rfl (fun gs h => by subst h; rfl) (by rw [Try.params10]; exact readable_FnNumeralValue) laid hW' hb⟩

theorem over : Rows.fnNumeralValueRow.holds Try.pinned (OpenSpec.ofChange Rows.fnNumeralValueSpec) :=
  OpenClaim.holds_of_wide 10 Try.f10 rfl rfl rfl rfl rfl rfl rfl ⟨rfl, rfl, rfl, rfl, rfl⟩ rfl rfl rfl rfl rfl (by kernel_rfl) Try.func10 (by kernel_rfl)
    (of_decide_eq_true (by kernel_rfl)) (by unfold Func.isWrapper; first | (rw [if_pos (by decide +kernel)]; kernel_rfl) | (rw [if_neg (by decide +kernel)]; exact ⟨rfl, rfl⟩))
    (fun os started H enc _ => lifted os started H enc)

theorem proved : Rows.FnNumeralValueSaid :=
  over
end Go.Proofs.Ytjhjnkeildeedaa.fnNumeralValue
