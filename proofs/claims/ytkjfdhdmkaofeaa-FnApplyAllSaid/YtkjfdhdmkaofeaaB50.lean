/-
  TeleL.
-/
import Derived.Test.YtkjfdhdmkaofeaaB18
import Derived.Test.YtkjfdhdmkaofeaaB25
import Derived.Test.YtkjfdhdmkaofeaaB47
import Derived.Test.YtkjfdhdmkaofeaaB48
import Derived.Test.YtkjfdhdmkaofeaaB49
import Derived.ChangeAlike
import Derived.RegionTactic
namespace Go.Proofs.Ytkjfdhdmkaofeaa
open Go.RowKit
def UnfL (k : Int) (t : Tm) (w : World) (e : Ending) (w' : World) : Prop := Below w.heap.size w w' ∧ ∃ (la : Option Addr) (lc : Nat) (ra : Option Addr) (rc : Nat),
 e = .returned (.tuple #[.agg #[.int .i64 (down 0 (runs k 0 30 t) t).kind, .int .i64 (down 0 (runs k 0 30 t) t).num, .slice ra (down 0 (runs k 0 30 t) t).kids.length rc], .slice la (runs k 0 30 t) lc]) ∧ SlIn w' 0 (sides 0 1 (runs k 0 30 t) t).reverse (.slice la (runs k 0 30 t) lc) ∧ SlIn w' 0 (down 0 (runs k 0 30 t) t).kids (.slice ra (down 0 (runs k 0 30 t) t).kids.length rc)
set_option maxRecDepth 100000 in
set_option maxHeartbeats 2000000 in
theorem unfL_any (k : Int) (hk : arity k = 2) (t : Tm) (hv : t.Valid) (w : World) (s : Value) (hs : SlIn w 0 t.kids s) :
  Calls Try.prog 28 #[.int .i64 k, .agg #[.int .i64 t.kind, .int .i64 t.num, s]] w (UnfL k t w) := by
 obtain ⟨ta, tc, rfl⟩ := hs.form
 have HS0 := tuck hs
 have HB3 := tuck (below2 w (.cells #[.int .i64 t.kind, .int .i64 t.num, .slice ta t.kids.length tc] 25) (.cells #[.int .i64 t.kind, .int .i64 t.num, .slice ta t.kids.length tc] 25))
 have HV3 := tuck (var_new1 w (.cells #[.int .i64 t.kind, .int .i64 t.num, .slice ta t.kids.length tc] 25) t.kind t.num (.slice ta t.kids.length tc))
 have HP : Hid (∀ (j : Nat) (w' : World) (la : Option Addr) (lc : Nat) (ra : Option Addr) (rc : Nat), (runs k 0 30 t) = j → Below w.heap.size w w' → SlIn w' 0 (sides 0 1 j t).reverse (.slice la j lc) → SlIn w' 0 (down 0 j t).kids (.slice ra (down 0 j t).kids.length rc) → UnfL k t w (.returned (.tuple #[.agg #[.int .i64 (down 0 j t).kind, .int .i64 (down 0 j t).num, .slice ra (down 0 j t).kids.length rc], .slice la j lc])) w') := tuck fun j w' la lc ra rc e h1 h2 h3 => by subst e; exact ⟨h1, la, lc, ra, rc, rfl, h2, h3⟩
 generalize UnfL k t w = post at *
 clear hs
 have hz2 : w.heap.size + 2 ≤ ((w.alloc (.cells #[.int .i64 t.kind, .int .i64 t.num, .slice ta t.kids.length tc] 25)).alloc (.cells #[.int .i64 t.kind, .int .i64 t.num, .slice ta t.kids.length tc] 25)).heap.size := by simp
 go_enter Try.func28, Try.ntmps28
 go_wp2_with fail
 generalize ((w.alloc (.cells #[.int .i64 t.kind, .int .i64 t.num, .slice ta t.kids.length tc] 25)).alloc (.cells #[.int .i64 t.kind, .int .i64 t.num, .slice ta t.kids.length tc] 25)) = W3 at *
 go_loopw [5] (fun lv wr => ∃ (j : Nat) (vl : Value) (ra : Option Addr) (rc : Nat), j ≤ 30 ∧ (∀ i, i < j → (down 0 i t).kind = k) ∧ lv = vl ∧ Below w.heap.size w wr ∧ VarAt (w.heap.size + 1) (down 0 j t).kind (down 0 j t).num (.slice ra (down 0 j t).kids.length rc) wr ∧ SlIn w 0 (down 0 j t).kids (.slice ra (down 0 j t).kids.length rc) ∧ RowT w.heap.size (w.heap.size + 2) (sides 0 1 j t) vl wr) (fun lv _ => 30 - slLen lv)
 case atStart => exact ⟨0, _, ta, tc, Nat.zero_le _, fun i h => absurd h (Nat.not_lt_zero _), rfl, HB3.out, HV3.out, HS0.out, RowT.nil _ _ _⟩
 case round =>
  obtain ⟨j, vl, ra, rc, hj, hkind, rfl, hb, hg, hsT, hrow⟩ := hrel
  obtain ⟨va, vc, rfl⟩ := hrow.form' (sides_length 0 1 j t)
  have hdv := down_valid (o := 0) hk (by decide) j t hv hkind
  have hj29 : j ≤ 29 := by
   have h1 := hdv.2
   have h2 := hgt_pos (down 0 j t)
   have h3 := hv.2.1
   omega
  have HSIDES := tuck (sides_succ 0 1 j t)
  have HDOWN := tuck (down_succ 0 j t)
  have HLEN := tuck (sides_length 0 1 j t)
  have HB := tuck hb
  have HGV := tuck hg
  have HST := tuck hsT
  have HROW := tuck hrow
  have HDV := tuck hdv.1
  have HKIND := tuck hkind
  clear hb hg hsT hrow hdv hkind HB3 HV3 HS0
  by_cases hkd : (down 0 j t).kind = k
  rotate_left
  ·have hne : ((down 0 j t).kind == k) = false := by simpa using hkd
   have HR := tuck (runs_of k 0 30 j t (by omega) HKIND.out (Or.inr hkd))
   have hD := HP.out j
   generalize hT : down 0 j t = T at *
   have HDD := tuck hD
   obtain ⟨z1, r0, r1, r2, rf⟩ := HGV.out.facts
   clear hD hkd hT
   have hRV : Hid (Calls Try.prog 45 #[.slice va j vc] wr fun e w' => (∃ v, e = .returned v) ∧ Below w.heap.size w w' ∧ VarAt (w.heap.size + 1) T.kind T.num (.slice ra T.kids.length rc) w' ∧ SlX w' (fun i => w.heap.size ≤ i ∧ i < w.heap.size + 2) (sides 0 1 j t).reverse (.slice va j vc)) := tuck ((revRow_any HROW.out HLEN.out (by omega)).mono fun e w' h => ⟨h.1, HB.out.grown h.2.1 HB.out.size (fun g hg => by have := (HROW.out.lt g hg).1; omega), HGV.out.grown h.2.1 (fun e => by have := (HROW.out.lt (w.heap.size + 1) e.symm).1; omega), h.2.2⟩)
   go_wp2_with fail
   refine hRV.out.mono ?_
   rintro e w2 ⟨⟨v2, rfl⟩, hb2, hg2, hs2⟩
   have HB2 := tuck hb2
   have HS2 := tuck hs2
   clear hb2 hs2 z1 r0 r1 r2 rf
   obtain ⟨z1, r0, r1, r2, rf⟩ := hg2.facts
   clear hg2
   go_wp2_with fail
   refine bodyPost_ret (v := .tuple #[.agg #[.int .i64 T.kind, .int .i64 T.num, .slice ra T.kids.length rc], .slice va j vc]) (by simp [results, Try.results28, go_sem, *]) rfl (HDD.out _ _ _ _ _ HR.out ?_ ?_ ?_)
   ·exact bSet3 HB2.out (Nat.le_succ _) _ _ _ _ _ _
   ·exact ((((HS2.out.set (q := ⟨w.heap.size + 1, 0, none⟩) ⟨Nat.le_succ _, by simp⟩ _).set (q := ⟨w.heap.size + 1, 1, none⟩) ⟨Nat.le_succ _, by simp⟩ _).set (q := ⟨w.heap.size + 1, 2, none⟩) ⟨Nat.le_succ _, by simp⟩ _)).sl
   ·exact HST.out.below (bSet3 HB2.out (Nat.le_succ _) _ _ _ _ _ _)
  have h2 := kid2_len HDV.out hkd hk
  have hkq : ((down 0 j t).kind == k) = true := by simpa using hkd
  have hk0 : kidT (down 0 j t) 0 = (down 0 j t).kids[0]'(by omega) := kidT_eq (by omega)
  have hk1 : kidT (down 0 j t) 1 = (down 0 j t).kids[1]'(by omega) := kidT_eq (by omega)
  obtain ⟨a', c', b, ofs, hsl, -, hp', hc'⟩ := HST.out.open
  obtain ⟨rfl, -, hbw⟩ := hp' (by intro e; rw [e] at h2; simp at h2)
  obtain ⟨s0, c00, c01, c02, hs0⟩ := hc' 0 (by omega)
  obtain ⟨s1, c10, c11, c12, hs1⟩ := hc' 1 (by omega)
  obtain ⟨x0a, x0c, rfl⟩ := hs0.form
  obtain ⟨x1a, x1c, rfl⟩ := hs1.form
  simp only [Value.slice.injEq, true_and] at hsl
  obtain ⟨rfl, rfl⟩ := hsl
  have HDN := tuck (HDOWN.out.trans hk0)
  have HSD : Hid (sides 0 1 (j + 1) t = sides 0 1 j t ++ [(down 0 j t).kids[1]'(by omega)]) := tuck (by rw [HSIDES.out, hk1])
  have c0 := (HB.out.cell (p := ⟨b, ofs + 0 * 3, none⟩) hbw).trans c00
  have c1 := (HB.out.cell (p := ⟨b, ofs + 0 * 3 + 1, none⟩) hbw).trans c01
  have c2 := (HB.out.cell (p := ⟨b, ofs + 0 * 3 + 2, none⟩) hbw).trans c02
  have c3 := (HB.out.cell (p := ⟨b, ofs + 1 * 3, none⟩) hbw).trans c10
  have c4 := (HB.out.cell (p := ⟨b, ofs + 1 * 3 + 1, none⟩) hbw).trans c11
  have c5 := (HB.out.cell (p := ⟨b, ofs + 1 * 3 + 2, none⟩) hbw).trans c12
  simp only [Nat.zero_mul, Nat.one_mul, Nat.add_zero, Nat.add_assoc, Nat.reduceAdd] at c0 c1 c2 c3 c4 c5
  have HC6 : Hid (∀ w', Below w.heap.size w w' → w'.cell? ⟨b, ofs, none⟩ = some (.int .i64 (((down 0 j t).kids[0]'(by omega)).kind)) ∧ w'.cell? ⟨b, ofs + 1, none⟩ = some (.int .i64 (((down 0 j t).kids[0]'(by omega)).num)) ∧ w'.cell? ⟨b, ofs + 2, none⟩ = some (.slice x0a (((down 0 j t).kids[0]'(by omega)).kids.length) x0c) ∧ w'.cell? ⟨b, ofs + 3, none⟩ = some (.int .i64 (((down 0 j t).kids[1]'(by omega)).kind)) ∧ w'.cell? ⟨b, ofs + 4, none⟩ = some (.int .i64 (((down 0 j t).kids[1]'(by omega)).num)) ∧ w'.cell? ⟨b, ofs + 5, none⟩ = some (.slice x1a (((down 0 j t).kids[1]'(by omega)).kids.length) x1c)) := tuck fun w' h =>
   ⟨(h.cell (p := ⟨b, ofs, none⟩) hbw).trans (by simpa using c00), (h.cell (p := ⟨b, ofs + 1, none⟩) hbw).trans (by simpa using c01), (h.cell (p := ⟨b, ofs + 2, none⟩) hbw).trans (by simpa using c02), (h.cell (p := ⟨b, ofs + 3, none⟩) hbw).trans (by simpa using c10), (h.cell (p := ⟨b, ofs + 4, none⟩) hbw).trans (by simpa using c11), (h.cell (p := ⟨b, ofs + 5, none⟩) hbw).trans (by simpa using c12)⟩
  have hsx := SlX.of_view (X := OffT w.heap.size (w.heap.size + 2) (.slice va j vc)) hs1 (View.of_below HB.out (fun i hi => by
   rcases hi with hi | hi
   ·exact hi.1
   ·have := (HROW.out.lt i hi).1; omega))
  have HSX := tuck hsx
  have HSN := tuck hs0
  have HT0 : Hid ((down 0 j t).kids.length = 2) := tuck h2
  clear hs0 hs1 hsx hp' hc' HST hk0 hk1 HSIDES HDOWN c00 c01 c02 c10 c11 c12 HP
  have hfin : ∀ x, (down 0 j t).kids[0]'(by omega) = x → True := fun _ _ => trivial
  generalize (down 0 j t).kids[0]'(by omega) = y0 at *
  generalize (down 0 j t).kids[1]'(by omega) = y1 at *
  have HKJ : Hid (∀ i, i < j + 1 → (down 0 i t).kind = k) := tuck fun i hi => by
   by_cases e : i = j
   ·subst e; exact hkd
   ·exact HKIND.out i (by omega)
  generalize hT : down 0 j t = T at *
  obtain ⟨z1, r0, r1, r2, rf⟩ := HGV.out.facts
  rw [h2] at r2
  obtain ⟨i0, hi0, hz0, hz1, hz2'⟩ := info_parts info_termG
  have HI0 := tuck hi0
  have HI1 := tuck hz0
  have HI2 := tuck hz1
  have HI3 := tuck hz2'
  clear hi0 hz0 hz1 hz2'
  have hbk := below1 wr (.cells #[.int .i64 y1.kind, .int .i64 y1.num, .slice x1a y1.kids.length x1c] 25)
  have HBK := tuck hbk
  have HRK := tuck (HROW.out.below hbk)
  have HSXK := tuck (HSX.out.below hbk)
  obtain ⟨xs, hox, hpush⟩ := HRK.out.grow HLEN.out
  have HOX := tuck hox
  have HPUSH := tuck hpush
  have HLT := tuck HROW.out.lt
  have hq4 : j + 1 ≤ maxLen := by unfold maxLen; omega
  have hqb : (j + 1) * 40 ≤ 140737488355328 := by omega
  have HWB : Hid (w.heap.size + 2 ≤ wr.heap.size) := tuck (by omega)
  clear h2 hT hkd hfin hox hpush hbk
  go_wp2_with (at_builtin; refine wpList_append_lies _ rfl _ _ _ rfl (w.heap.size + 2) 25 i0 _ 3 40 Try.underlying44 HI0.out HI1.out HI2.out HI3.out rfl (by omega) _ _ _ rfl HOX.out ⟨wr.heap.size, 0, none⟩ 1 1 [.int .i64 y1.kind, .int .i64 y1.num, .slice x1a y1.kids.length x1c] rfl rfl ?news ?one (by omega) hq4 hqb ?base (wr.heap.size + 1) ?size ?next)
  case news => exact World.news_of_block (cs := #[.int .i64 y1.kind, .int .i64 y1.num, .slice x1a y1.kids.length x1c]) (t := 25) (fr := (0, 0)) (heap_new wr _)
  case one => simp [Value.oneCell']
  case base => have := HWB.out; simp; omega
  case size => simp
  case next =>
   intro gg gcap w4 hown4 hgrow hat hlt4
   have HGR := tuck hgrow
   have HOWN := tuck hown4
   have HAT := tuck hat
   have hb4 : Below w.heap.size w w4 := (bAfter HB.out HBK.out).grown hgrow (bAfter HB.out HBK.out).size (fun g hg => by have := (HLT.out g hg).1; omega)
   have hg4 : VarAt (w.heap.size + 1) T.kind T.num (.slice (some ⟨b, ofs, none⟩) T.kids.length rc) w4 := (HGV.out.below HBK.out).grown hgrow (fun e => by have := (HLT.out (w.heap.size + 1) e.symm).1; omega)
   have HB4 := tuck hb4
   have HG4 := tuck hg4
   obtain ⟨d0, d1, d2, d3, d4, d5⟩ := HC6.out _ hb4
   obtain ⟨z4, q0, q1, q2, qf⟩ := hg4.facts
   rw [HT0.out] at q2
   have hz4 : b < w4.heap.size := Nat.lt_of_lt_of_le hbw hb4.size
   clear hgrow hown4 hat hb4 hg4 c0 c1 c2 c3 c4 c5 z1 r0 r1 r2 rf
   go_wp2_with fail
   go_roundw
   case rel =>
    refine ⟨j + 1, .slice (some ⟨gg, 0, none⟩) (j + 1) gcap, x0a, x0c, by omega, HKJ.out, rfl, ?_, ?_, ?_, ?_⟩
    ·exact bSet3 HB4.out (Nat.le_succ _) _ _ _ _ _ _
    ·rw [HDN.out]; exact HG4.out.set
    ·rw [HDN.out]; exact HSN.out
    ·rw [HSD.out]
     have hr4 := HPUSH.out _ _ w4 y1 HSXK.out HOWN.out HGR.out (HAT.out.imp (fun h => h.symm) (fun h => by rw [h]; simp [Value.ownBlock]))
     exact ((hr4.setCell (p := ⟨w.heap.size + 1, 0, none⟩) (Nat.le_succ _) (by simp) _).setCell (p := ⟨w.heap.size + 1, 1, none⟩) (Nat.le_succ _) (by simp) _).setCell (p := ⟨w.heap.size + 1, 2, none⟩) (Nat.le_succ _) (by simp) _
   case measure => simp [slLen]; omega
end Go.Proofs.Ytkjfdhdmkaofeaa
