/-
  DfJ.
-/
import Derived.Test.YtihlbbbajaepoaaE29
import Derived.Test.YtihlbbbajaepoaaE35
import Derived.Test.YtihlbbbajaepoaaE37
namespace Go.Proofs.Ytihlbbbajaepoaa
open Go.RowKit
theorem maxFree_valid {t : Tm} (h : 0 ≤ maxFreeOf t) : t.Valid := Classical.byContradiction fun hn => by
 unfold maxFreeOf at h
 rw [if_neg hn] at h
 omega
theorem DefsOk.valid {l : List (Tm × Tm)} (h : DefsOk l) (i : Nat) (hi : i < l.length) : l[i].1.Valid ∧ l[i].2.Valid := ⟨maxFree_valid (h.2 i hi).1.1, maxFree_valid (h.2 i hi).2.1⟩
set_option maxRecDepth 100000 in
set_option maxHeartbeats 8000000 in
theorem defTypesS_any (l : List (Tm × Tm)) (w : World) (v : Value) (hin : DfIn w 0 l v) : Calls Try.prog 24 #[v] w (CvPostS w (orNil (DefsOk l) (l.map (·.1))) (tr (DefsOk l))) := by
 have HB0 := tuck (below1 w (.cells #[] 30))
 have HR0 := tuck (rowT_made w w.heap.size (Nat.le_refl _))
 have HIN := tuck hin
 obtain ⟨a, cap, rfl⟩ := hin.form
 by_cases hn : DefsOk l
 rotate_left
 ·have h0 : orNil (DefsOk l) (l.map (·.1)) = [] := by unfold orNil; rw [if_neg hn]
  have HV : Hid (∀ W, DfIn W 0 l (.slice a l.length cap) → Calls Try.prog 20 #[.slice a l.length cap] W (BoolPost W false)) := tuck fun W h => by have h2 := defsValidS_any l W _ h; rwa [tr_not hn] at h2
  rw [h0, tr_not hn]
  have HP : Hid (∀ W, Below w.heap.size w W → CvPostS w [] false (.returned (.tuple #[.slice (some ⟨w.heap.size, 0, none⟩) 0 0, .bool false])) W) := tuck fun W hb => ⟨hb, _, 0, rfl, SlIn.nil _ _ _ _⟩
  generalize CvPostS w [] false = post at *
  clear hn h0 hin
  go_enter Try.func24, Try.ntmps24
  go_wp2_with fail
  refine (HV.out _ (HIN.out.below HB0.out)).mono ?_
  rintro e w1 ⟨rfl, hb⟩
  have HB := tuck (bAfter HB0.out hb)
  clear hb
  go_wp2_with fail
  exact HP.out _ HB.out
 have h0 : orNil (DefsOk l) (l.map (·.1)) = l.map (·.1) := by unfold orNil; rw [if_pos hn]
 have HV : Hid (∀ W, DfIn W 0 l (.slice a l.length cap) → Calls Try.prog 20 #[.slice a l.length cap] W (BoolPost W true)) := tuck fun W h => by have h2 := defsValidS_any l W _ h; rwa [tr_of hn] at h2
 rw [h0, tr_of hn]
 have hm8 : l.length ≤ 8 := hn.1
 have HVL := tuck hn.valid
 obtain ⟨ts, hts⟩ : ∃ ts, ts = l.map (·.1) := ⟨_, rfl⟩
 rw [← hts]
 have hll : ts.length = l.length := by rw [hts, List.length_map]
 have HTK : Hid (∀ q (h : q < l.length), ts.take (q + 1) = ts.take q ++ [l[q].1]) := tuck fun q h => by subst hts; rw [List.take_succ_eq_append_getElem (by rw [List.length_map]; exact h), List.getElem_map]
 have HLL := tuck hll
 have HP : Hid (∀ W va vc, Below w.heap.size w W → SlIn W w.heap.size ts (.slice va l.length vc) → CvPostS w ts true (.returned (.tuple #[.slice va l.length vc, .bool true])) W) := tuck fun W va vc hb hs => ⟨hb, va, vc, by rw [hll], by rw [hll]; exact hs⟩
 generalize CvPostS w ts true = post at *
 obtain ⟨a', cap', b, o, he, -, hp, hc⟩ := hin
 simp only [Value.slice.injEq, true_and] at he
 obtain ⟨rfl, rfl⟩ := he
 have HPP := tuck hp
 have HC := tuck hc
 clear hn h0 hp hc hll hts
 go_enter Try.func24, Try.ntmps24
 go_wp2_with fail
 generalize w.alloc (.cells #[] 30) = W0 at *
 refine (HV.out _ (HIN.out.below HB0.out)).mono ?_
 rintro e w1 ⟨rfl, hb⟩
 replace HR0 := tuck (HR0.out.below hb)
 replace HB0 := tuck (bAfter HB0.out hb)
 clear hb
 go_wp2_with fail
 go_loopw [4, 5] (fun out i wr => ∃ (q : Nat) (vl : Value), q ≤ l.length ∧ i = .int .i64 q ∧ out = vl ∧ Below w.heap.size w wr ∧ RowT 0 w.heap.size (ts.take q) vl wr) (fun _ i _ => l.length - (intOf i).toNat)
 case atStart => exact ⟨0, _, Nat.zero_le _, rfl, rfl, HB0.out, HR0.out⟩
 case round =>
  obtain ⟨q, vl, hq, rfl, rfl, hb, hrow⟩ := hrel
  have hlen : (ts.take q).length = q := by rw [List.length_take, HLL.out]; omega
  obtain ⟨va, vc, rfl⟩ := hrow.form' hlen
  have HLEN := tuck hlen
  have HB := tuck hb
  have HROW := tuck hrow
  clear hb hrow hlen
  by_cases hlt : q < l.length
  rotate_left
  ·have hneg : ¬ (q : Int) < (l.length : Int) := by omega
   have hqm : q = l.length := by omega
   have hd := (HROW.out.done' HLEN.out (by unfold maxLen; omega))
   rw [List.take_of_length_le (by rw [HLL.out]; omega)] at hd
   have HD := tuck (tl_from (hd.less fun i hi => ⟨Nat.zero_le _, hi⟩))
   subst hqm
   clear hd
   go_wp2_with fail
   exact HP.out _ _ _ HB.out HD.out
  have hlti : (q : Int) < (l.length : Int) := by omega
  have hqi : (0 : Int) ≤ (q : Int) := by omega
  have HTAKE1 := tuck (HTK.out q hlt)
  obtain ⟨rfl, -, hbw⟩ := HPP.out (by omega)
  obtain ⟨s, u, c0, c1, c2, -, -, -, hs, -⟩ := HC.out q hlt
  obtain ⟨sa, sc, rfl⟩ := hs.form
  have hcc : ∀ j, wr.cell? ⟨b, j, none⟩ = w.cell? ⟨b, j, none⟩ := fun j => HB.out.cell (p := ⟨b, j, none⟩) hbw
  rw [← hcc] at c0 c1 c2
  have HCX := tuck (tl_copyS l[q].1 (by have := (valid_bounds (HVL.out q hlt).1).1; omega) wr _ (hs.below HB.out))
  clear hs hcc
  generalize l[q] = x at *
  obtain ⟨x, x2⟩ := x
  simp only at HCX HTAKE1 c0 c1 c2
  obtain ⟨i0, hi0, hz0, hz1, hz2'⟩ := info_parts info_termG
  have HI0 := tuck hi0
  have HI1 := tuck hz0
  have HI2 := tuck hz1
  have HI3 := tuck hz2'
  clear hi0 hz0 hz1 hz2'
  go_wp2_with fail
  refine HCX.out.mono ?_
  rintro e w3 ⟨hb3, ya, yc, rfl, hs3⟩
  have hbk := bAfter hb3 (below1 w3 (.cells #[.int .i64 x.kind, .int .i64 x.num, .slice ya x.kids.length yc] 30))
  have HBK := tuck hbk
  have HRK := tuck (HROW.out.below hbk)
  have HS3 := tuck (hs3.below (below1 w3 (.cells #[.int .i64 x.kind, .int .i64 x.num, .slice ya x.kids.length yc] 30)))
  obtain ⟨xs, hox, hpush⟩ := HRK.out.grow HLEN.out
  have HOX := tuck hox
  have HPUSH := tuck hpush
  have HLT := tuck HROW.out.lt
  have hq4 : q + 1 ≤ maxLen := by unfold maxLen; omega
  have hqb : (q + 1) * 40 ≤ 140737488355328 := by omega
  have HWB : Hid (w.heap.size ≤ w3.heap.size) := tuck (Nat.le_trans HB.out.size hb3.size)
  clear hox hpush hbk hb3 hs3 c0 c1 c2
  go_wp2_with (at_builtin; refine wpList_append_lies _ rfl _ _ _ rfl w.heap.size 30 i0 _ 3 40 Try.underlying28 HI0.out HI1.out HI2.out HI3.out rfl (by omega) _ _ _ rfl HOX.out ⟨w3.heap.size, 0, none⟩ 1 1 [.int .i64 x.kind, .int .i64 x.num, .slice ya x.kids.length yc] rfl rfl ?news ?one (by omega) hq4 hqb ?base (w3.heap.size + 1) ?size ?next)
  case news => exact World.news_of_block (cs := #[.int .i64 x.kind, .int .i64 x.num, .slice ya x.kids.length yc]) (t := 30) (fr := (0, 0)) (heap_new w3 _)
  case one => simp [Value.oneCell']
  case base => have := HWB.out; simp; omega
  case size => simp
  case next =>
   intro gg gcap w4 hown4 hgrow hat hlt4
   have HGR := tuck hgrow
   have HOWN := tuck hown4
   have HAT := tuck hat
   clear hgrow hown4 hat
   go_wp2_with fail
   go_roundw
   case rel =>
    refine ⟨q + 1, .slice (some ⟨gg, 0, none⟩) (q + 1) gcap, by omega, by go_num, rfl, ?_, ?_⟩
    ·exact (bAfter HB.out HBK.out).grown HGR.out (bAfter HB.out HBK.out).size (fun g hg => (HLT.out g hg).1)
    ·rw [HTAKE1.out]
     exact HPUSH.out _ _ w4 x (SlX.of_sl HS3.out fun i h => by
      have h2 := HB.out.size
      rcases h with h | h
      ·omega
      ·have := (HLT.out i h).2
       omega) HOWN.out HGR.out (HAT.out.imp (fun h => h.symm) (fun h => by rw [h]; simp [Value.ownBlock]))
   case measure => simp [intOf]; try omega
end Go.Proofs.Ytihlbbbajaepoaa
