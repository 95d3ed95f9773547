/-
  NumeralValue, the program's and the model's: the number whose numeral a term is.
-/
import Derived.Test.YtjhjnkeildeedaaImplB
import Derived.Test.YtjhjnkeildeedaaNumT
namespace Go.Proofs.Ytjhjnkeildeedaa
open Go.RowKit

set_option maxRecDepth 100000 in
theorem nvalI_any (t : Tm) (w : World) (v : Value) (h : TmIn w 0 t v) : Calls Try.prog 28 #[v] w (NValPost w t) := by
  obtain ⟨s, rfl, hs⟩ := h
  obtain ⟨sa, sc, rfl⟩ := hs.form
  have HS := tuck hs
  have HY : Hid (∀ (m : Nat) w', m ≤ 20 → t = numT m → Below w.heap.size w w' → NValPost w t (.returned (.tuple #[.int .i64 m, .bool true])) w') := fun m w' h1 h2 h3 => NValPost.yes h1 h2 h3
  have HN : Hid (∀ w', (∀ m : Nat, m ≤ 20 → t ≠ numT m) → Below w.heap.size w w' → NValPost w t (.returned (.tuple #[.int .i64 0, .bool false])) w') := fun w' h1 h2 => NValPost.no h1 h2
  generalize NValPost w t = post at *
  clear hs
  go_enter Try.func28, Try.ntmps28
  go_wp2_with fail
  go_loopw [4] (fun i wr => ∃ (q : Nat) (x : Tm) (xa : Option Addr) (xc : Nat), q ≤ 21 ∧ i = .int .i64 q ∧ Below w.heap.size w wr ∧ VarAt w.heap.size x.kind x.num (.slice xa x.kids.length xc) wr ∧ SlIn w 0 x.kids (.slice xa x.kids.length xc) ∧ ∀ m, t = numT m ↔ q ≤ m ∧ x = numT (m - q)) (fun i _ => 21 - (intOf i).toNat)
  case atStart => exact ⟨0, t, sa, sc, by omega, rfl, below1 _ _, VarAt.new _ _ _ _, HS.out, fun m => by simp⟩
  case round =>
    obtain ⟨q, x, xa, xc, hq, rfl, hb, hv, hx, hiff⟩ := hrel
    obtain ⟨z0, a0, a1, a2, af⟩ := hv.facts
    have HB := tuck hb
    have HV := tuck hv
    have HX := tuck hx
    have HIFF := tuck hiff
    clear hb hv hx hiff
    by_cases hlt : q ≤ 20
    · have hlti : ((q : Int) ≤ 20) := by omega
      have HR := tuck (root_any x.kind x.num xa x.kids.length xc)
      by_cases hr : RootOk x.kind x.num x.kids.length
      · rw [tr_of hr] at HR
        by_cases h7 : x.kind = 7
        · have g7 : (x.kind == 7) = true := by simpa using h7
          have H7 : Hid (t = numT q) := (HIFF.out q).2 ⟨Nat.le_refl _, by rw [Nat.sub_self]; exact root7 hr h7⟩
          clear h7 hr
          go_wp2_with (go_at_call 49; refine (HR.out _).mono ?_; rintro e w1 ⟨rfl, hb1⟩; obtain ⟨oc, of⟩ := old_cells hb1; have hz1 : w.heap.size < w1.heap.size := (by have := hb1.size; omega); have HB1 := tuck hb1; clear hb1)
          exact HY.out q _ hlt H7.out (bAfter HB.out HB1.out)
        · have g7 : (x.kind == 7) = false := by simpa using h7
          by_cases h8 : x.kind = 8
          · have g8 : (x.kind == 8) = true := by simpa using h8
            obtain ⟨y, rfl⟩ := root8 hr h8
            have HNX : Hid (∀ m, t = numT m ↔ q + 1 ≤ m ∧ y = numT (m - (q + 1))) := by
              intro m
              rw [HIFF.out m]
              constructor
              · rintro ⟨h1, h2⟩
                cases e : m - q with
                | zero => rw [e, numT] at h2; injection h2 with h2; omega
                | succ r =>
                  rw [e, numT] at h2
                  injection h2 with _ _ h2
                  injection h2 with h2
                  exact ⟨by omega, by rw [show m - (q + 1) = r by omega]; exact h2⟩
              · rintro ⟨h1, h2⟩
                exact ⟨by omega, by rw [show m - q = (m - (q + 1)) + 1 by omega, numT, ← h2]⟩
            obtain ⟨xa', xc', b, o, e, hl, hp, hc⟩ := HX.out.open
            injection e with e1 e2 e3
            subst e1 e3
            obtain ⟨rfl, _, hbw⟩ := hp (by simp [Tm.kids])
            obtain ⟨s, c0, c1, c2, hs⟩ := hc 0 (by simp [Tm.kids])
            obtain ⟨ya, yc, rfl⟩ := hs.form
            replace c0 := (HB.out.cell (p := ⟨b, o + 0 * 3, none⟩) hbw).trans c0
            replace c1 := (HB.out.cell (p := ⟨b, o + 0 * 3 + 1, none⟩) hbw).trans c1
            replace c2 := (HB.out.cell (p := ⟨b, o + 0 * 3 + 2, none⟩) hbw).trans c2
            simp only [Tm.kids, Tm.kind, Tm.num, Nat.zero_mul, Nat.add_zero, List.getElem_cons_zero, List.length_cons, List.length_nil, Nat.zero_add] at *
            have hbr : b < wr.heap.size := World.block_lt_of_cell? wr _ c0
            have HYS := tuck hs
            clear hs hc hp hr h7 h8
            go_wp2_with (go_at_call 49; refine (HR.out _).mono ?_; rintro e w1 ⟨rfl, hb1⟩; obtain ⟨oc, of⟩ := old_cells hb1; have hz1 : w.heap.size < w1.heap.size := (by have := hb1.size; omega); have HB1 := tuck hb1; clear hb1)
            go_roundw
            case rel => exact ⟨q + 1, y, ya, yc, by omega, by go_num, bSet3 (bAfter HB.out HB1.out) (Nat.le_refl _) _ _ _ _ _ _, (HV.out.below HB1.out).set, HYS.out, HNX.out⟩
            case measure => simp [intOf]; omega
          · have g8 : (x.kind == 8) = false := by simpa using h8
            have HNO : Hid (∀ m : Nat, m ≤ 20 → t ≠ numT m) := fun m hm e => by
              obtain ⟨_, h⟩ := (HIFF.out m).1 e
              have hk : x.kind = numKind (m - q) := by rw [h, numT_kind]
              unfold numKind at hk
              split at hk
              · exact h7 hk
              · exact h8 hk
            clear h7 h8 hr
            go_wp2_with (go_at_call 49; refine (HR.out _).mono ?_; rintro e w1 ⟨rfl, hb1⟩; obtain ⟨oc, of⟩ := old_cells hb1; have hz1 : w.heap.size < w1.heap.size := (by have := hb1.size; omega); have HB1 := tuck hb1; clear hb1)
            exact HN.out _ HNO.out (bAfter HB.out HB1.out)
      · rw [tr_not hr] at HR
        have HNO : Hid (∀ m : Nat, m ≤ 20 → t ≠ numT m) := fun m hm e => by
          obtain ⟨_, h⟩ := (HIFF.out m).1 e
          exact hr (by rw [h]; exact numT_rootOk _)
        clear hr
        go_wp2_with (go_at_call 49; refine (HR.out _).mono ?_; rintro e w1 ⟨rfl, hb1⟩; obtain ⟨oc, of⟩ := old_cells hb1; have hz1 : w.heap.size < w1.heap.size := (by have := hb1.size; omega); have HB1 := tuck hb1; clear hb1)
        exact HN.out _ HNO.out (bAfter HB.out HB1.out)
    · have hgt : ¬ ((q : Int) ≤ 20) := by omega
      have HNO : Hid (∀ m : Nat, m ≤ 20 → t ≠ numT m) := fun m hm e => by
        have := ((HIFF.out m).1 e).1
        omega
      go_wp2
      exact HN.out _ HNO.out HB.out

set_option maxRecDepth 100000 in
theorem nvalS_any (t : Tm) (w : World) (v : Value) (h : TmIn w 0 t v) : Calls Try.prog 32 #[v] w (NValPost w t) := by
  obtain ⟨s, rfl, hs⟩ := h
  obtain ⟨sa, sc, rfl⟩ := hs.form
  have HS := tuck hs
  have HY : Hid (∀ (m : Nat) w', m ≤ 20 → t = numT m → Below w.heap.size w w' → NValPost w t (.returned (.tuple #[.int .i64 m, .bool true])) w') := fun m w' h1 h2 h3 => NValPost.yes h1 h2 h3
  have HN : Hid (∀ w', (∀ m : Nat, m ≤ 20 → t ≠ numT m) → Below w.heap.size w w' → NValPost w t (.returned (.tuple #[.int .i64 0, .bool false])) w') := fun w' h1 h2 => NValPost.no h1 h2
  have HV : Hid (∀ (w : World), SlIn w 0 t.kids (.slice sa t.kids.length sc) → Calls Try.prog 53 #[.agg #[.int .i64 t.kind, .int .i64 t.num, .slice sa t.kids.length sc]] w (BoolPost w (tr t.Valid))) := fun w h => validS_any t w _ ⟨_, rfl, h⟩
  generalize NValPost w t = post at *
  clear hs
  by_cases hv : t.Valid
  rotate_left
  · rw [tr_not hv] at HV
    have HNO : Hid (∀ m : Nat, m ≤ 20 → t ≠ numT m) := fun m hm e => hv (by rw [e]; exact valid_numT hm)
    clear hv
    go_enter Try.func32, Try.ntmps32
    go_wp2_with (go_at_call 53; refine (HV.out _ (HS.out.below (below1 _ _))).mono ?_; rintro e w1 ⟨rfl, hb1⟩; have HB1 := tuck hb1; clear hb1)
    exact HN.out _ HNO.out (bAfter (below1 _ _) HB1.out)
  rw [tr_of hv] at HV
  have HVD := tuck hv
  clear hv
  go_enter Try.func32, Try.ntmps32
  go_wp2_with (go_at_call 53; refine (HV.out _ (HS.out.below (below1 _ _))).mono ?_; rintro e w1 ⟨rfl, hb1⟩; have HV1 := tuck ((VarAt.new w t.kind t.num (.slice sa t.kids.length sc)).below hb1); have HB1 := tuck (bAfter (below1 _ _) hb1); clear hb1)
  go_loopw [4] (fun i wr => ∃ (q : Nat) (x : Tm) (xa : Option Addr) (xc : Nat), i = .int .i64 q ∧ Below w.heap.size w wr ∧ VarAt w.heap.size x.kind x.num (.slice xa x.kids.length xc) wr ∧ SlIn w 0 x.kids (.slice xa x.kids.length xc) ∧ (∀ m, t = numT m ↔ q ≤ m ∧ x = numT (m - q)) ∧ x.allOk ∧ q + x.hgt ≤ 30) (fun i _ => 31 - (intOf i).toNat)
  case atStart => exact ⟨0, t, sa, sc, rfl, HB1.out, HV1.out, HS.out, fun m => by simp, HVD.out.1, by have := HVD.out.2.1; omega⟩
  case round =>
    obtain ⟨q, x, xa, xc, rfl, hb, hv, hx, hiff, hok, hh⟩ := hrel
    obtain ⟨z0, a0, a1, a2, af⟩ := hv.facts
    have HB := tuck hb
    have HVR := tuck hv
    have HX := tuck hx
    have HIFF := tuck hiff
    have hr : x.rootOk := (x.allOk_iff.1 hok).1
    have hh1 := x.hgt_eq
    have hq : q ≤ 29 := by omega
    clear hb hv hx hiff
    by_cases h8 : x.kind = 8
    · have g8 : (x.kind == 8) = true := by simpa using h8
      obtain ⟨y, rfl⟩ := root8 hr h8
      have HNX : Hid (∀ m, t = numT m ↔ q + 1 ≤ m ∧ y = numT (m - (q + 1))) := by
        intro m
        rw [HIFF.out m]
        constructor
        · rintro ⟨h1, h2⟩
          cases e : m - q with
          | zero => rw [e, numT] at h2; injection h2 with h2; omega
          | succ r =>
            rw [e, numT] at h2
            injection h2 with _ _ h2
            injection h2 with h2
            exact ⟨by omega, by rw [show m - (q + 1) = r by omega]; exact h2⟩
        · rintro ⟨h1, h2⟩
          exact ⟨by omega, by rw [show m - q = (m - (q + 1)) + 1 by omega, numT, ← h2]⟩
      have HOK : Hid (y.allOk ∧ q + 1 + y.hgt ≤ 30) := by
        rw [Tm.hgt, hgts, hgts] at hh
        exact ⟨hok.2.1, by omega⟩
      obtain ⟨xa', xc', b, o, e, hl, hp, hc⟩ := HX.out.open
      injection e with e1 e2 e3
      subst e1 e3
      obtain ⟨rfl, _, hbw⟩ := hp (by simp [Tm.kids])
      obtain ⟨s, c0, c1, c2, hs⟩ := hc 0 (by simp [Tm.kids])
      obtain ⟨ya, yc, rfl⟩ := hs.form
      replace c0 := (HB.out.cell (p := ⟨b, o + 0 * 3, none⟩) hbw).trans c0
      replace c1 := (HB.out.cell (p := ⟨b, o + 0 * 3 + 1, none⟩) hbw).trans c1
      replace c2 := (HB.out.cell (p := ⟨b, o + 0 * 3 + 2, none⟩) hbw).trans c2
      simp only [Tm.kids, Tm.kind, Tm.num, Nat.zero_mul, Nat.add_zero, List.getElem_cons_zero, List.length_cons, List.length_nil, Nat.zero_add] at *
      have hbr : b < wr.heap.size := World.block_lt_of_cell? wr _ c0
      have HYS := tuck hs
      clear hs hc hp hr h8 hok hh hh1
      go_wp2_with fail
      go_roundw
      case rel => exact ⟨q + 1, y, ya, yc, by go_num, bSet3 HB.out (Nat.le_refl _) _ _ _ _ _ _, HVR.out.set, HYS.out, HNX.out, HOK.out⟩
      case measure => simp [intOf]; omega
    · have g8 : (x.kind == 8) = false := by simpa using h8
      by_cases h7 : x.kind = 7
      · have g7 : (x.kind != 7) = false := by simpa using h7
        have H7 : Hid (t = numT q) := (HIFF.out q).2 ⟨Nat.le_refl _, by rw [Nat.sub_self]; exact root7 hr h7⟩
        clear h7 h8 hr hok hh hh1
        by_cases h20 : q ≤ 20
        · have g20 : ¬ (20 < (q : Int)) := by omega
          go_wp2_with fail
          exact HY.out q _ h20 H7.out HB.out
        · have g20 : (20 < (q : Int)) := by omega
          have HNO : Hid (∀ m : Nat, m ≤ 20 → t ≠ numT m) := fun m hm e => by
            have := numT_inj (H7.out.symm.trans e)
            omega
          go_wp2_with fail
          exact HN.out _ HNO.out HB.out
      · have g7 : (x.kind != 7) = true := by simpa using h7
        have HNO : Hid (∀ m : Nat, m ≤ 20 → t ≠ numT m) := fun m hm e => by
          obtain ⟨_, h⟩ := (HIFF.out m).1 e
          have hk : x.kind = numKind (m - q) := by rw [h, numT_kind]
          unfold numKind at hk
          split at hk
          · exact h7 hk
          · exact h8 hk
        clear h7 h8 hr hok hh hh1
        go_wp2_with fail
        exact HN.out _ HNO.out HB.out

end Go.Proofs.Ytjhjnkeildeedaa
