/-
  impl.FormatDefs.
-/
import Derived.Test.YteeafpnjpcgfaaaGreatFdA
import Derived.Test.YteeafpnjpcgfaaaGreatDfG
import Derived.Test.YteeafpnjpcgfaaaGreatFmD
import Derived.Deep.DeepCutAuto
namespace Go.Proofs.YteeafpnjpcgfaaaGreat
open Go.RowKit Go.Shelf
set_option linter.unusedVariables false
set_option linter.unusedSimpArgs false

theorem FIs.below {B b : Nat} {T : TypeId} {rest : List Value} {bs : List Value} {w w' : World} (h : FIs B b T rest bs w) (hb : Below w.heap.size w w') : FIs B b T rest bs w' := by
  refine h.imp ?_ ?_
  all_goals
    intro h
    have hlt := h.lt
    obtain ⟨hB, v, hbk, hown, hne⟩ := h
    exact ⟨hB, v, (hb.block b hlt).trans hbk, hown.kept (row := none) ⟨hb.os, hb.tape, hb.output, hb.size, fun k hk _ => hb.block k hk⟩ (by cases hv : v.ownBlock <;> simp), hne⟩
set_option maxRecDepth 100000 in
theorem heads_sb : Heads 58 0 := ⟨by kernel_rfl⟩

set_option maxRecDepth 100000 in
set_option maxHeartbeats 1000000 in
/-- (*strings.Builder).String, where nothing was written. -/
theorem strF_nil (b : Nat) (T : TypeId) (p : Value) (w : World) (hbk : w.heap[b]? = some (.cells #[p, .slice none 0 0] T (0, 0))) :
    Calls Tryz.prog 35 #[.pointer (some ⟨b, 0, none⟩)] w fun e w' => e = .returned (.string (ByteArray.mk #[])) ∧ Below w.heap.size w w' := by
  have hUS : ∀ W q, (Builtin.unsafeString_ #[102, 3] 9 #[.pointer q, .int .i64 0]).run Tryz.prog W = .ok (.string .empty) W := fun W q => Lib.run_unsafeString_none W _ _ _ q
  have c1 : w.drew.cell? ⟨b, 1, none⟩ = some (.slice none 0 0) := by
    have : w.drew.heap[b]? = some (.cells #[p, .slice none 0 0] T (0, 0)) := hbk
    rw [Lib.cell_of_heap this]; rfl
  have hSD : (Builtin.unsafeSliceData_ #[33] 102 #[.slice none 0 0]).run Tryz.prog w.drew = .ok (.pointer none) w.drew := rfl
  have HB : Hid (Below w.heap.size w w.drew) := tuck (Below.refl _ _).drew
  clear hbk
  go_enter Tryz.func35, Tryz.ntmps35
  go_wp2
  go_region
  all_goals (go_wp2; go_ret; exact ⟨rfl, HB.out⟩)

theorem fmt_valid (T : Tm) (hv : T.Valid) (W : World) (s : Value) (h : SlIn W 0 T.kids s) : Calls Tryz.prog 11 #[.agg #[.int .i64 T.kind, .int .i64 T.num, s]] W (StrPost W T.txt) := by
  have h1 := formatI_any T W _ ⟨_, rfl, h⟩
  rwa [fmtOf_yes hv] at h1

theorem fdN_pos (l : List (Tm × Tm)) (q : Nat) (h : 0 < q) : 1 ≤ (fdN l q).size := by
  obtain ⟨p, rfl⟩ : ∃ p, q = p + 1 := ⟨q - 1, by omega⟩
  have e2 : (ByteArray.mk #[10]).size = 1 := rfl
  rw [fdN]
  simp only [ByteArray.size_append, e2]
  omega

set_option maxRecDepth 100000 in
set_option maxHeartbeats 4000000 in
theorem formatDefsI_any (l : List (Tm × Tm)) (w : World) (v : Value) (hin : DfIn w 0 l v) : Calls Tryz.prog 21 #[v] w (StrPost w (fmtDefs l)) := by
  have HIN := tuck hin
  obtain ⟨a, cap, b, o, rfl, hl, hp, hc⟩ := hin
  have HP := tuck hp
  have HC := tuck hc
  unfold maxLen at hl
  clear hp hc
  by_cases hn : DefsOk l
  rotate_left
  · have HV : Hid (∀ W, DfIn W 0 l (.slice a l.length cap) → Calls Tryz.prog 49 #[.slice a l.length cap] W (BoolPost W false)) := tuck fun W h => by have h2 := defsValidI_any l W _ h; rwa [tr_not hn] at h2
    have HE : Hid (∀ W, Below w.heap.size w W → StrPost w (fmtDefs l) (.returned (.string (ByteArray.mk #[]))) W) := tuck fun W hb => ⟨by rw [fmtDefs_no hn], hb⟩
    generalize StrPost w (fmtDefs l) = post at *
    clear hn
    go_enter Tryz.func21, Tryz.ntmps21
    go_wp2_with fail
    refine (HV.out _ HIN.out).mono ?_
    rintro e w1 ⟨rfl, hb⟩
    have HB := tuck hb
    clear hb
    go_wp2_with fail
    exact HE.out _ HB.out
  have HV : Hid (∀ W, DfIn W 0 l (.slice a l.length cap) → Calls Tryz.prog 49 #[.slice a l.length cap] W (BoolPost W true)) := tuck fun W h => by have h2 := defsValidI_any l W _ h; rwa [tr_of hn] at h2
  have HVAL := tuck hn.valid
  have HSZ := tuck (fdN_size hn)
  have hl8 : l.length ≤ 8 := hn.1
  have HE : Hid (∀ W, Below w.heap.size w W → StrPost w (fmtDefs l) (.returned (.string (fdN l l.length))) W) := tuck fun W hb => ⟨by rw [fmtDefs_yes hn], hb⟩
  have HSC := tuck (fdN_succ l)
  generalize StrPost w (fmtDefs l) = post at *
  clear hn
  go_enter Tryz.func21, Tryz.ntmps21
  go_wp2_with fail
  refine (HV.out _ HIN.out).mono ?_
  rintro e w1 ⟨rfl, hb1⟩
  have HB1 := tuck hb1
  have hz1 := hb1.size
  clear hb1
  have HG := tuck (heap_new w1 (.cells #[.pointer none, .slice none 0 0] 58))
  have HB2 := tuck (below1 w1 (.cells #[.pointer none, .slice none 0 0] 58))
  go_wp2_with fail
  generalize w1.alloc (.cells #[.pointer none, .slice none 0 0] 58) = W2 at *
  obtain ⟨g, hg⟩ : ∃ g, g = w1.heap.size := ⟨_, rfl⟩
  have hwg : w.heap.size ≤ g := by omega
  have HGE := tuck hg
  rw [← hg] at HG ⊢
  clear hg hz1
  go_loopw [11] (fun i wr => ∃ q : Nat, q ≤ l.length ∧ i = .int .i64 q ∧ FIs g g 58 [] (Lib.strCells (fdN l q)) wr ∧ Below g w1 wr ∧ (q = 0 → wr.heap[g]? = some (.cells #[.pointer none, .slice none 0 0] 58 (0, 0)))) (fun i _ => l.length - (intOf i).toNat)
  case atStart => exact ⟨0, Nat.zero_le _, rfl, .inl ⟨Nat.le_refl _, .slice none 0 0, HG.out, World.ownsRowF_nil _ _ _ _, by simp [Value.ownBlock]⟩, by rw [HGE.out]; exact HB2.out, fun _ => HG.out⟩
  case round =>
    obtain ⟨q, hq, rfl, hf, hb, h0⟩ := hrel
    have HF := tuck hf
    have hbw0 : Below w.heap.size w wr := HB1.out.trans (hb.mono (by omega))
    have HB := tuck hb
    have HH0 := tuck h0
    by_cases hlt : q < l.length
    · have hlti : ((q : Int) < (l.length : Int)) := by omega
      have hqi : (0 : Int) ≤ (q : Int) := by omega
      obtain ⟨rfl, -, hbw⟩ := HP.out (by omega)
      obtain ⟨s, u, c0, c1, c2, c3, c4, c5, hs, hu⟩ := HC.out q hlt
      obtain ⟨sa, sc, rfl⟩ := hs.form
      obtain ⟨ua, uc, rfl⟩ := hu.form
      have hcc : ∀ j, wr.cell? ⟨b, j, none⟩ = w.cell? ⟨b, j, none⟩ := fun j => hbw0.cell (p := ⟨b, j, none⟩) hbw
      rw [← hcc] at c0 c1 c2 c3 c4 c5
      obtain ⟨hv1, hv2⟩ := HVAL.out q hlt
      have HT1 : Hid (∀ W, Below wr.heap.size wr W → Calls Tryz.prog 11 #[.agg #[.int .i64 l[q].1.kind, .int .i64 l[q].1.num, .slice sa l[q].1.kids.length sc]] W (StrPost W l[q].1.txt)) := tuck fun W h => fmt_valid _ hv1 W _ ((hs.below hbw0).below h)
      have HT2 : Hid (∀ W, Below wr.heap.size wr W → Calls Tryz.prog 11 #[.agg #[.int .i64 l[q].2.kind, .int .i64 l[q].2.num, .slice ua l[q].2.kids.length uc]] W (StrPost W l[q].2.txt)) := tuck fun W h => fmt_valid _ hv2 W _ ((hu.below hbw0).below h)
      have hz1' : l[q].1.txt.size ≤ 3200 := by have := l[q].1.txt_size; have := hv1.2.2; omega
      have hz2' : l[q].2.txt.size ≤ 3200 := by have := l[q].2.txt_size; have := hv2.2.2; omega
      have hz0' : (fdN l q).size ≤ 60000 := by have := HSZ.out q hq; omega
      have HNX : Hid (∀ W', FIs g g 58 [] (Lib.strCells (fdN l q ++ (l[q].1.txt ++ ByteArray.mk #[61] ++ l[q].2.txt ++ ByteArray.mk #[10]))) W' → Below g w1 W' → ∃ q' : Nat, q' ≤ l.length ∧ Value.int .i64 ((q : Int) + 1) = .int .i64 q' ∧ FIs g g 58 [] (Lib.strCells (fdN l q')) W' ∧ Below g w1 W' ∧ (q' = 0 → W'.heap[g]? = some (.cells #[.pointer none, .slice none 0 0] 58 (0, 0)))) := tuck fun W' h1 h2 => ⟨q + 1, by omega, by simp, by
        rw [HSC.out q hlt]
        simpa only [ByteArray.append_assoc] using h1, h2, fun h => by omega⟩
      have e1 : (ByteArray.mk #[61]).size = 1 := rfl
      have e2 : (ByteArray.mk #[10]).size = 1 := rfl
      have HDB := tuck (DBox.new 81 wr l[q].1.kind l[q].1.num (.slice sa l[q].1.kids.length sc) l[q].2.kind l[q].2.num (.slice ua l[q].2.kids.length uc))
      have hgr : g < wr.heap.size := hf.lt
      generalize l[q] = x at *
      obtain ⟨x1, x2⟩ := x
      simp only at HT1 HT2 HNX hz1' hz2' c0 c1 c2 c3 c4 c5 HDB
      generalize x1.txt = t1 at *
      generalize x2.txt = t2 at *
      generalize fdN l q = fq at *
      have f1 : ¬ (9223372036854775807 < t1.size + 1) := by omega
      have f2 : ¬ (9223372036854775807 < t1.size + 1 + t2.size) := by omega
      have f3 : ¬ (9223372036854775807 < t1.size + 1 + t2.size + 1) := by omega
      have f1' : ¬ (9223372036854775807 < t1.size + (ByteArray.mk #[61]).size) := by omega
      have f2' : ¬ (9223372036854775807 < t1.size + (ByteArray.mk #[61]).size + t2.size) := by omega
      have f3' : ¬ (9223372036854775807 < t1.size + (ByteArray.mk #[61]).size + t2.size + (ByteArray.mk #[10]).size) := by omega
      obtain ⟨D, hD⟩ : ∃ D : Obj, D = .cells #[.int .i64 x1.kind, .int .i64 x1.num, .slice sa x1.kids.length sc, .int .i64 x2.kind, .int .i64 x2.num, .slice ua x2.kids.length uc] 81 := ⟨_, rfl⟩
      rw [← hD] at HDB
      have HBA := tuck (hb.alloc (by omega : g ≤ wr.heap.size) D)
      have HFA := tuck (hf.alloc D)
      have HBX := tuck (below1 wr D)
      have HZZ := tuck (And.intro hz0' (And.intro hz1' hz2'))
      clear hcc hs hu hv1 hv2 hbw hf hb h0 hz0' hz1' hz2'
      go_upto_region 7 with fail
      rw [← hD]
      generalize wr.alloc D = WA at *
      obtain ⟨bd, hbd⟩ : ∃ bd, bd = wr.heap.size := ⟨_, rfl⟩
      rw [← hbd] at HDB HBX ⊢
      have hbg : bd ≠ g := by omega
      obtain ⟨zd, p0, p1, p2, p3, p4, p5, pf⟩ := HDB.out.facts
      have HS0 : Hid ((fun W : World => bd < W.heap.size ∧ W.cell? ⟨bd, 0, none⟩ = some (.int .i64 x1.kind) ∧ W.cell? ⟨bd, 1, none⟩ = some (.int .i64 x1.num) ∧ W.cell? ⟨bd, 2, none⟩ = some (.slice sa x1.kids.length sc) ∧ W.cell? ⟨bd, 3, none⟩ = some (.int .i64 x2.kind) ∧ W.cell? ⟨bd, 4, none⟩ = some (.int .i64 x2.num) ∧ W.cell? ⟨bd, 5, none⟩ = some (.slice ua x2.kids.length uc)) WA.drew) := tuck ⟨zd, p0, p1, p2, p3, p4, p5⟩
      clear HS0 p0 p1 p2 p3 p4 p5 pf zd hD c0 c1 c2 c3 c4 c5 hbw0 HF HB HB2 HG
      replace HDB : Hid (DBox 81 bd x1.kind x1.num (.slice sa x1.kids.length sc) x2.kind x2.num (.slice ua x2.kids.length uc) WA.drew) := tuck HDB.out
      replace HFA : Hid (FIs g g 58 [] (Lib.strCells fq) WA.drew) := tuck HFA.out.drew
      replace HBA : Hid (Below g w1 WA.drew) := tuck HBA.out.drew
      rw [hbd] at HBX
      replace HBX : Hid (Below wr.heap.size wr WA.drew) := tuck HBX.out.drew
      have HSD : Hid (∀ W, DBox 81 bd x1.kind x1.num (.slice sa x1.kids.length sc) x2.kind x2.num (.slice ua x2.kids.length uc) W → (fun W : World => bd < W.heap.size ∧ W.cell? ⟨bd, 0, none⟩ = some (.int .i64 x1.kind) ∧ W.cell? ⟨bd, 1, none⟩ = some (.int .i64 x1.num) ∧ W.cell? ⟨bd, 2, none⟩ = some (.slice sa x1.kids.length sc) ∧ W.cell? ⟨bd, 3, none⟩ = some (.int .i64 x2.kind) ∧ W.cell? ⟨bd, 4, none⟩ = some (.int .i64 x2.num) ∧ W.cell? ⟨bd, 5, none⟩ = some (.slice ua x2.kids.length uc)) W) := tuck fun W h => by
        obtain ⟨zd, p0, p1, p2, p3, p4, p5, -⟩ := h.facts
        exact ⟨zd, p0, p1, p2, p3, p4, p5⟩
      have HWR : Hid (∀ W, FIs g g 58 [] (Lib.strCells fq) W → g ≤ W.heap.size → Calls Tryz.prog 50 #[.pointer (some ⟨g, 0, none⟩), .string (t1 ++ ByteArray.mk #[61] ++ t2 ++ ByteArray.mk #[10])] W fun e W' => e = .returned (.tuple #[.int .i64 (t1 ++ ByteArray.mk #[61] ++ t2 ++ ByteArray.mk #[10]).size, .nilIface]) ∧ FPost g g 58 [] (Lib.strCells (fq ++ (t1 ++ ByteArray.mk #[61] ++ t2 ++ ByteArray.mk #[10]))) W W') := tuck fun W h1 h2 => by
        rw [strCells_app]
        exact writeF_any g g _ [] _ _ W heads_sb (by decide) h1 (by have hz := HZZ.out; rw [Lib.strCells_length]; simp only [ByteArray.size_append, e1, e2]; omega) h2
      clear hbd
      go_region_held3 (fun W : World => bd < W.heap.size ∧ W.cell? ⟨bd, 0, none⟩ = some (.int .i64 x1.kind) ∧ W.cell? ⟨bd, 1, none⟩ = some (.int .i64 x1.num) ∧ W.cell? ⟨bd, 2, none⟩ = some (.slice sa x1.kids.length sc) ∧ W.cell? ⟨bd, 3, none⟩ = some (.int .i64 x2.kind) ∧ W.cell? ⟨bd, 4, none⟩ = some (.int .i64 x2.num) ∧ W.cell? ⟨bd, 5, none⟩ = some (.slice ua x2.kids.length uc)) (exact HSD.out _ HDB.out) (first | ((with_reducible refine (HT1.out _ HBX.out).mono ?_); rintro e w' ⟨rfl, hb'⟩; replace HBX := tuck (bAfter HBX.out hb'); replace HDB := tuck (HDB.out.below hb'); replace HBA := tuck (HBA.out.trans (hb'.mono (Nat.le_of_lt HFA.out.lt))); replace HFA := tuck (HFA.out.below hb'); clear hb') | ((with_reducible refine (HT2.out _ HBX.out).mono ?_); rintro e w' ⟨rfl, hb'⟩; replace HBX := tuck (bAfter HBX.out hb'); replace HDB := tuck (HDB.out.below hb'); replace HBA := tuck (HBA.out.trans (hb'.mono (Nat.le_of_lt HFA.out.lt))); replace HFA := tuck (HFA.out.below hb'); clear hb') | ((with_reducible refine (HWR.out _ HFA.out (Nat.le_of_lt HFA.out.lt)).mono ?_); rintro e w' ⟨rfl, hp'⟩; have HNQ := tuck (HNX.out _ hp'.1 (HBA.out.trans hp'.2.1)); replace HDB := tuck (show DBox 81 bd x1.kind x1.num (.slice sa x1.kids.length sc) x2.kind x2.num (.slice ua x2.kids.length uc) w' from block_kept hp'.2.2 HDB.out hbg (by decide)); clear hp'))
      clear HSD HWR HT1 HT2 HBX HFA
      go_wp2_with fail
      go_roundw
      case rel => exact HNQ.out
      case measure => simp [intOf]; omega
    · have hge : ¬ ((q : Int) < (l.length : Int)) := by omega
      obtain rfl : q = l.length := by omega
      have HBW0 := tuck hbw0
      by_cases hl0 : l.length = 0
      · have HST := tuck (strF_nil g _ _ wr (HH0.out hl0))
        have HFI : Hid (∀ w3, Below w.heap.size w w3 → post (.returned (.string (ByteArray.mk #[]))) w3) := tuck fun w3 h => by
          have h2 := HE.out w3 h
          rwa [show fdN l l.length = ByteArray.mk #[] by rw [hl0, fdN]] at h2
        clear hl0 hf hb h0 hbw0 HE HSC HSZ HVAL HC HP HIN HV HH0
        go_wp2_with fail
        refine HST.out.mono ?_
        rintro e w3 ⟨rfl, hb3⟩
        have HB3 := tuck (bAfter HBW0.out hb3)
        clear hb3
        go_wp2_with fail
        exact HFI.out _ HB3.out
      · have HST := tuck (strF_any g g _ [] _ wr hf (fdN_pos l _ (by omega)))
        have HFI := tuck HE.out
        generalize fdN l l.length = fq at *
        clear hl0 hf hb h0 hbw0 HE HSC HSZ HVAL HC HP HIN HV HH0
        go_wp2_with fail
        refine HST.out.mono ?_
        rintro e w3 ⟨rfl, hb3⟩
        have HB3 : Hid (Below w.heap.size w w3) := tuck (HB1.out.trans ((HB.out.trans hb3).mono hwg))
        clear hb3
        go_wp2_with fail
        exact HFI.out _ HB3.out

end Go.Proofs.YteeafpnjpcgfaaaGreat
