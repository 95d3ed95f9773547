/-
  The texts of definitions, and the model's FormatDefs.
-/
import Derived.Test.YteeafpnjpcgfaaaGreatDfE
import Derived.Test.YteeafpnjpcgfaaaGreatTextD
import Derived.Deep.RegionHeld3
namespace Go.Proofs.YteeafpnjpcgfaaaGreat
open Go.RowKit

/-- The text of the first definitions of a list. -/
def fdN (l : List (Tm × Tm)) : Nat → ByteArray
  | 0 => ByteArray.mk #[]
  | q + 1 => fdN l q ++ kidS (l.map fun x => x.1.txt) q ++ ByteArray.mk #[61] ++ kidS (l.map fun x => x.2.txt) q ++ ByteArray.mk #[10]
theorem kidS_map (l : List (Tm × Tm)) (f : Tm × Tm → ByteArray) (q : Nat) (h : q < l.length) : kidS (l.map f) q = f l[q] := by
  unfold kidS
  rw [List.getD_eq_getElem?_getD, List.getElem?_eq_getElem (by simpa using h)]
  simp
theorem fdN_succ (l : List (Tm × Tm)) (q : Nat) (h : q < l.length) : fdN l (q + 1) = fdN l q ++ l[q].1.txt ++ ByteArray.mk #[61] ++ l[q].2.txt ++ ByteArray.mk #[10] := by
  rw [fdN, kidS_map l _ q h, kidS_map l _ q h]
noncomputable def fmtDefs (l : List (Tm × Tm)) : ByteArray := @ite _ (DefsOk l) (Classical.propDecidable _) (fdN l l.length) (ByteArray.mk #[])
theorem fmtDefs_yes {l : List (Tm × Tm)} (h : DefsOk l) : fmtDefs l = fdN l l.length := if_pos h
theorem fmtDefs_no {l : List (Tm × Tm)} (h : ¬ DefsOk l) : fmtDefs l = ByteArray.mk #[] := if_neg h
theorem DefsOk.valid {l : List (Tm × Tm)} (h : DefsOk l) (i : Nat) (hi : i < l.length) : l[i].1.Valid ∧ l[i].2.Valid := by
  obtain ⟨⟨h1, -⟩, h2, -⟩ := h.2 i hi
  exact ⟨Classical.byContradiction fun hn => by rw [show maxFreeOf l[i].1 = -1 from if_neg hn] at h1; omega, Classical.byContradiction fun hn => by rw [show maxFreeOf l[i].2 = -1 from if_neg hn] at h2; omega⟩
theorem fdN_size {l : List (Tm × Tm)} (h : DefsOk l) : ∀ q, q ≤ l.length → (fdN l q).size ≤ q * 6402
  | 0, _ => Nat.zero_le _
  | q + 1, hq => by
    have h1 := fdN_size h q (by omega)
    have hv := h.valid q (by omega)
    have h2 := l[q].1.txt_size
    have h3 := l[q].2.txt_size
    have h4 := hv.1.2.2
    have h5 := hv.2.2.2
    have e1 : (ByteArray.mk #[61]).size = 1 := rfl
    have e2 : (ByteArray.mk #[10]).size = 1 := rfl
    rw [fdN_succ l q (by omega)]
    simp only [ByteArray.size_append, e1, e2]
    omega

theorem txtS_any (T : Tm) (hv : T.Valid) (W : World) (s : Value) (h : SlIn W 0 T.kids s) : Calls Tryz.prog 31 #[.agg #[.int .i64 T.kind, .int .i64 T.num, s]] W (StrPost W T.txt) := by
  have h1 := text_any T.kids T.kind T.num W s (by rw [Tm.eta]; exact hv.1) (by have := hv.2.2; have := T.size_eq; omega) h
  rwa [Tm.eta] at h1

set_option maxRecDepth 100000 in
set_option maxHeartbeats 4000000 in
theorem formatDefsS_any (l : List (Tm × Tm)) (w : World) (v : Value) (hin : DfIn w 0 l v) : Calls Tryz.prog 19 #[v] w (StrPost w (fmtDefs l)) := by
  have HIN := tuck hin
  obtain ⟨a, cap, b, o, rfl, hl, hp, hc⟩ := hin
  have HP := tuck hp
  have HC := tuck hc
  unfold maxLen at hl
  clear hp hc
  by_cases hn : DefsOk l
  rotate_left
  · have HV : Hid (∀ W, DfIn W 0 l (.slice a l.length cap) → Calls Tryz.prog 47 #[.slice a l.length cap] W (BoolPost W false)) := tuck fun W h => by have h2 := defsValidS_any l W _ h; rwa [tr_not hn] at h2
    have HE : Hid (∀ W, Below w.heap.size w W → StrPost w (fmtDefs l) (.returned (.string (ByteArray.mk #[]))) W) := tuck fun W hb => ⟨by rw [fmtDefs_no hn], hb⟩
    generalize StrPost w (fmtDefs l) = post at *
    clear hn
    go_enter Tryz.func19, Tryz.ntmps19
    go_wp2_with fail
    refine (HV.out _ HIN.out).mono ?_
    rintro e w1 ⟨rfl, hb⟩
    have HB := tuck hb
    clear hb
    go_wp2_with fail
    exact HE.out _ HB.out
  have HV : Hid (∀ W, DfIn W 0 l (.slice a l.length cap) → Calls Tryz.prog 47 #[.slice a l.length cap] W (BoolPost W true)) := tuck fun W h => by have h2 := defsValidS_any l W _ h; rwa [tr_of hn] at h2
  have HVAL := tuck hn.valid
  have HSZ := tuck (fdN_size hn)
  have hl8 : l.length ≤ 8 := hn.1
  have HE : Hid (∀ W, Below w.heap.size w W → StrPost w (fmtDefs l) (.returned (.string (fdN l l.length))) W) := tuck fun W hb => ⟨by rw [fmtDefs_yes hn], hb⟩
  have HSC := tuck (fdN_succ l)
  generalize StrPost w (fmtDefs l) = post at *
  clear hn
  go_enter Tryz.func19, Tryz.ntmps19
  go_wp2_with fail
  refine (HV.out _ HIN.out).mono ?_
  rintro e w1 ⟨rfl, hb1⟩
  have HB1 := tuck hb1
  clear hb1
  go_wp2_with fail
  go_loopw [3, 4] (fun out i wr => ∃ q : Nat, q ≤ l.length ∧ i = .int .i64 q ∧ out = .string (fdN l q) ∧ Below w.heap.size w wr) (fun _ i _ => l.length - (intOf i).toNat)
  case atStart => exact ⟨0, Nat.zero_le _, rfl, rfl, HB1.out⟩
  case round =>
    obtain ⟨q, hq, rfl, rfl, hb⟩ := hrel
    have HB := tuck hb
    by_cases hlt : q < l.length
    · have hlti : ((q : Int) < (l.length : Int)) := by omega
      have hqi : (0 : Int) ≤ (q : Int) := by omega
      obtain ⟨rfl, -, hbw⟩ := HP.out (by omega)
      obtain ⟨s, u, c0, c1, c2, c3, c4, c5, hs, hu⟩ := HC.out q hlt
      obtain ⟨sa, sc, rfl⟩ := hs.form
      obtain ⟨ua, uc, rfl⟩ := hu.form
      have hcc : ∀ j, wr.cell? ⟨b, j, none⟩ = w.cell? ⟨b, j, none⟩ := fun j => hb.cell (p := ⟨b, j, none⟩) hbw
      rw [← hcc] at c0 c1 c2 c3 c4 c5
      obtain ⟨hv1, hv2⟩ := HVAL.out q hlt
      have HT1 : Hid (∀ W, Below wr.heap.size wr W → Calls Tryz.prog 31 #[.agg #[.int .i64 l[q].1.kind, .int .i64 l[q].1.num, .slice sa l[q].1.kids.length sc]] W (StrPost W l[q].1.txt)) := tuck fun W h => txtS_any _ hv1 W _ ((hs.below hb).below h)
      have HT2 : Hid (∀ W, Below wr.heap.size wr W → Calls Tryz.prog 31 #[.agg #[.int .i64 l[q].2.kind, .int .i64 l[q].2.num, .slice ua l[q].2.kids.length uc]] W (StrPost W l[q].2.txt)) := tuck fun W h => txtS_any _ hv2 W _ ((hu.below hb).below h)
      have hz1 : l[q].1.txt.size ≤ 3200 := by have := l[q].1.txt_size; have := hv1.2.2; omega
      have hz2 : l[q].2.txt.size ≤ 3200 := by have := l[q].2.txt_size; have := hv2.2.2; omega
      have hz0 : (fdN l q).size ≤ 60000 := by have := HSZ.out q hq; omega
      have HNX : Hid (∀ W', Below w.heap.size w W' → ∃ q' : Nat, q' ≤ l.length ∧ Value.int .i64 ((q : Int) + 1) = .int .i64 q' ∧ Value.string (fdN l q ++ l[q].1.txt ++ ByteArray.mk #[61] ++ l[q].2.txt ++ ByteArray.mk #[10]) = .string (fdN l q') ∧ Below w.heap.size w W') := tuck fun W' h => ⟨q + 1, by omega, by simp, by rw [HSC.out q hlt], h⟩
      have hbr : b < wr.heap.size := World.block_lt_of_cell? wr _ c0
      have HCL : Hid (∀ W : World, Below wr.heap.size wr W → W.cell? ⟨b, o + q * 6, none⟩ = some (.int .i64 l[q].1.kind) ∧ W.cell? ⟨b, o + q * 6 + 1, none⟩ = some (.int .i64 l[q].1.num) ∧ W.cell? ⟨b, o + q * 6 + 2, none⟩ = some (.slice sa l[q].1.kids.length sc) ∧ W.cell? ⟨b, o + q * 6 + 3, none⟩ = some (.int .i64 l[q].2.kind) ∧ W.cell? ⟨b, o + q * 6 + 4, none⟩ = some (.int .i64 l[q].2.num) ∧ W.cell? ⟨b, o + q * 6 + 5, none⟩ = some (.slice ua l[q].2.kids.length uc)) := tuck fun W hW => by
        have hc : ∀ j, W.cell? ⟨b, j, none⟩ = wr.cell? ⟨b, j, none⟩ := fun j => hW.cell (p := ⟨b, j, none⟩) hbr
        exact ⟨by rw [hc]; exact c0, by rw [hc]; exact c1, by rw [hc]; exact c2, by rw [hc]; exact c3, by rw [hc]; exact c4, by rw [hc]; exact c5⟩
      have e1 : (ByteArray.mk #[61]).size = 1 := rfl
      have e2 : (ByteArray.mk #[10]).size = 1 := rfl
      generalize l[q] = x at *
      obtain ⟨x1, x2⟩ := x
      simp only at HT1 HT2 HCL HNX hz1 hz2 c0 c1 c2 c3 c4 c5
      generalize x1.txt = t1 at *
      generalize x2.txt = t2 at *
      generalize fdN l q = fq at *
      have g1 : ¬ (9223372036854775807 < fq.size + t1.size) := by omega
      have g2 : ¬ (9223372036854775807 < (fq ++ t1).size + (ByteArray.mk #[61]).size) := by rw [ByteArray.size_append, e1]; omega
      have g3 : ¬ (9223372036854775807 < (fq ++ t1 ++ ByteArray.mk #[61]).size + t2.size) := by rw [ByteArray.size_append, ByteArray.size_append, e1]; omega
      have g4 : ¬ (9223372036854775807 < (fq ++ t1 ++ ByteArray.mk #[61] ++ t2).size + (ByteArray.mk #[10]).size) := by simp only [ByteArray.size_append, e1, e2]; omega
      have f2 : ¬ (9223372036854775807 < fq.size + t1.size + 1) := by omega
      have f3 : ¬ (9223372036854775807 < fq.size + t1.size + 1 + t2.size) := by omega
      have f4 : ¬ (9223372036854775807 < fq.size + t1.size + 1 + t2.size + 1) := by omega
      have f2' : ¬ (9223372036854775807 < fq.size + t1.size + (ByteArray.mk #[61]).size) := by omega
      have f3' : ¬ (9223372036854775807 < fq.size + t1.size + (ByteArray.mk #[61]).size + t2.size) := by omega
      have f4' : ¬ (9223372036854775807 < fq.size + t1.size + (ByteArray.mk #[61]).size + t2.size + (ByteArray.mk #[10]).size) := by omega
      have HW : Hid (Below wr.heap.size wr wr.drew) := tuck (Below.refl _ _).drew
      clear hb hs hu hcc hv1 hv2 hz0 hz1 hz2 hbw
      go_wp2_with fail
      go_region_held3 (fun W : World => W.cell? ⟨b, o + q * 6, none⟩ = some (.int .i64 x1.kind) ∧ W.cell? ⟨b, o + q * 6 + 1, none⟩ = some (.int .i64 x1.num) ∧ W.cell? ⟨b, o + q * 6 + 2, none⟩ = some (.slice sa x1.kids.length sc) ∧ W.cell? ⟨b, o + q * 6 + 3, none⟩ = some (.int .i64 x2.kind) ∧ W.cell? ⟨b, o + q * 6 + 4, none⟩ = some (.int .i64 x2.num) ∧ W.cell? ⟨b, o + q * 6 + 5, none⟩ = some (.slice ua x2.kids.length uc)) (exact HCL.out _ HW.out) (first | ((with_reducible refine (HT1.out _ HW.out).mono ?_); rintro e w' ⟨rfl, hb'⟩; replace HW := tuck (bAfter HW.out hb'); clear hb') | ((with_reducible refine (HT2.out _ HW.out).mono ?_); rintro e w' ⟨rfl, hb'⟩; replace HW := tuck (bAfter HW.out hb'); clear hb'))
      have HBN := tuck (bAfter HB.out HW.out)
      clear HCL HT1 HT2
      go_wp2_with fail
      go_roundw
      case rel => exact HNX.out _ HBN.out
      case measure => simp [intOf]; omega
    · have hge : ¬ ((q : Int) < (l.length : Int)) := by omega
      obtain rfl : q = l.length := by omega
      go_wp2_with fail
      exact HE.out _ HB.out

end Go.Proofs.YteeafpnjpcgfaaaGreat
