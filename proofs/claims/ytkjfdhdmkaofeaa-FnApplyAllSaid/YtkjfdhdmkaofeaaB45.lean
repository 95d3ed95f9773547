/-
  DrawsV.
-/
import Derived.Test.YtkjfdhdmkaofeaaB44
namespace Go.Proofs.Ytkjfdhdmkaofeaa
open Go.RowKit
theorem RowG.lit (W : World) (base : Nat) (h : base ≤ W.heap.size) : RowG base [] (.slice (some ⟨W.heap.size, 0, none⟩) 0 0) [] (W.alloc (.cells #[] 25)) :=
 ⟨[], rfl, rfl, World.ownsRow_lit (base := base) (e := 25) (size := 3) W #[] 0 h (by simp [maxLen]) (by simp), fun x h => (by cases h), List.nodup_nil, fun g h => (by cases h)⟩
theorem RowG.cap {base q n c : Nat} {l : List Tm} {F : List Nat} {w : World} (h : RowG base l (.slice (some ⟨q, 0, none⟩) n c) F w) : n ≤ c := by
 obtain ⟨rs, -, -, h, -⟩ := h
 rcases h.2 with ⟨h1, -⟩ | ⟨g, cap, cur, h1, -, -, h2, -⟩
 ·cases h1
 ·cases h1
  exact h2
def AppDraw (w : World) (e : Ending) (w' : World) : Prop := ∃ (T : Tm) (l : List Tm) (v : Value) (q c : Nat), e = .returned (.tuple #[v, .slice (some ⟨q, 0, none⟩) l.length c]) ∧ TmIn w' w.heap.size T v ∧ SlIn w' w.heap.size l (.slice (some ⟨q, 0, none⟩) l.length c) ∧ l.length ≤ 9 ∧ l.length ≤ c ∧ T.size ≤ 1000 ∧ Below w.heap.size w w'
set_option maxRecDepth 100000 in
set_option maxHeartbeats 2000000 in
theorem dApplyAll_any {U : Nat → Int} {a : Option Addr} {b o len cap : Nat} (w : World) (hlen : len ≤ 140737488355328) (hcap : len ≤ cap) (hby : Bytes U a b o len w) : Calls Try.prog 6 #[.slice a len cap] w (AppDraw w) := by
 have HP : Hid (∀ (T : Tm) (l : List Tm) (v : Value) (q n c : Nat) (w' : World), l.length = n → TmIn w' w.heap.size T v → SlIn w' w.heap.size l (.slice (some ⟨q, 0, none⟩) n c) → n ≤ 9 → n ≤ c → T.size ≤ 1000 → Below w.heap.size w w' → AppDraw w (.returned (.tuple #[v, .slice (some ⟨q, 0, none⟩) n c])) w') := fun T l v q n c w' h0 h1 h2 h3 h4 h5 h6 => by subst h0; exact ⟨T, l, v, q, c, rfl, h1, h2, h3, h4, h5, h6⟩
 generalize AppDraw w = post at *
 have hz0 : (w.alloc (.cells #[.int .i64 0, .int .i64 0, .slice none 0 0] 25)).heap.size = w.heap.size + 1 := by simp
 have hb0 : Below w.heap.size w (w.alloc (.cells #[.int .i64 0, .int .i64 0, .slice none 0 0] 25)) := below1 _ _
 have HO := tuck (open_any (w.alloc (.cells #[.int .i64 0, .int .i64 0, .slice none 0 0] 25)) hlen hcap (hby.below hb0))
 have hv0 : VarAt w.heap.size 0 0 (.slice none 0 0) (w.alloc (.cells #[.int .i64 0, .int .i64 0, .slice none 0 0] 25)) := VarAt.new w 0 0 (.slice none 0 0)
 clear hby
 go_enter Try.func6, Try.ntmps6
 go_wp2_with fail
 refine HO.out.mono ?_
 rintro e w1 ⟨a', len', cap', he, hl, hbl, hrd, hby, hb1, hz⟩
 generalize w.alloc (.cells #[.int .i64 0, .int .i64 0, .slice none 0 0] 25) = W0 at *
 have hgz : w.heap.size < W0.heap.size := by omega
 have HB := tuck (bAfter hb0 hb1)
 have HV := tuck (hv0.below hb1)
 clear hb1
 generalize W0.heap.size = g at *
 subst he
 subst hz0
 have HBW : Hid (0 < len' → b ≠ w.heap.size + 1) := tuck (fun h => Nat.ne_of_lt (hbl h))
 have HRD := tuck hrd
 have HBY := tuck hby
 clear hrd hby HO hbl hv0 hb0
 have hne : w.heap.size ≠ w.heap.size + 1 := by omega
 go_wp2_with fail
 refine (l3draw_any _ hl HBW.out (by omega) HRD.out HBY.out).mono ?_
 rintro e w3 ⟨t, s, p', rfl, hsl, hv, hp', hrd, ho⟩
 obtain ⟨sa, sc, rfl⟩ := hsl.form
 have hsz : sizes t.kids ≤ 900 := by have := hv.2.2; have := t.size_eq; omega
 have HIN := tuck (hsl.mono (Nat.zero_le _))
 replace HB := tuck (Only.below HB.out ho (by omega) HB.out.size)
 replace HBY := tuck (HBY.out.only ho HBW.out)
 replace HV := tuck (HV.out.only ho hne)
 replace HRD := tuck hrd
 clear ho hrd hsl hv
 go_wp2_with fail
 refine (lmut_any t _ _ hl HBW.out (by omega) hsz HRD.out HBY.out ⟨_, rfl, HIN.out⟩).mono ?_
 rintro e w2 ⟨TT, vT, pbT, rfl, ⟨s4, rfl, hin⟩, hszT, hpb, hrd, ho⟩
 obtain ⟨aT, cT, rfl⟩ := hin.form
 have hlr : w.heap.size + 1 < w3.heap.size := HRD.out.facts.1
 have HINT := tuck (hin.mono (show w.heap.size + 2 ≤ _ from hlr))
 have hgeT : w.heap.size + 1 < w2.heap.size := Nat.lt_of_lt_of_le hlr ho.size
 replace HB := tuck (Only.below HB.out ho (by omega) HB.out.size)
 replace HBY := tuck (HBY.out.only ho HBW.out)
 replace HV := tuck (HV.out.only ho hne)
 replace HRD := tuck hrd
 have hpT : pbT ≤ 2000 := by omega
 clear ho hin hrd HIN hsz hlr hpb
 have HT := tuck (VarAt.new w2 TT.kind TT.num (.slice aT TT.kids.length cT))
 have hbx := below1 w2 (.cells #[.int .i64 TT.kind, .int .i64 TT.num, .slice aT TT.kids.length cT] 25)
 replace HINT := tuck (HINT.out.below hbx)
 replace HB := tuck (bAfter HB.out hbx)
 replace HBY := tuck (HBY.out.below hbx)
 replace HV := tuck (HV.out.below hbx)
 replace HRD := tuck (HRD.out.below hbx)
 clear hbx
 have hne2 : w2.heap.size ≠ w.heap.size + 1 := by omega
 have hzT : (w2.alloc (.cells #[.int .i64 TT.kind, .int .i64 TT.num, .slice aT TT.kids.length cT] 25)).heap.size = w2.heap.size + 1 := by simp
 go_wp2_with fail
 generalize w2.alloc (.cells #[.int .i64 TT.kind, .int .i64 TT.num, .slice aT TT.kids.length cT] 25) = W2 at *
 have HG0 := RowG.lit W2 (w2.heap.size + 1) (Nat.le_of_eq hzT.symm)
 rw [hzT] at HG0
 have HG0 := tuck HG0
 have HU : Hid (Only (w.heap.size + 1) W2 (W2.alloc (.cells #[] 25))) := tuck ((Only.refl _ _).alloc _)
 have hz2 : (W2.alloc (.cells #[] 25)).heap.size = w2.heap.size + 1 + 1 := by simp [hzT]
 have hbe := below1 W2 (.cells #[] 25)
 replace HRD := tuck (HRD.out.below hbe)
 have HL := ints_new [1, 2, 0, 3, 9] (W2.alloc (.cells #[] 25)) 3
 rw [hz2] at HL
 have HZT := tuck hzT
 have hbx := below1 (W2.alloc (.cells #[] 25)) (.cells #[.int .i64 1, .int .i64 2, .int .i64 0, .int .i64 3, .int .i64 9] 3)
 replace HRD := tuck (HRD.out.below hbx)
 replace HG0 := tuck (HG0.out.below hbx)
 replace HU := tuck (HU.out.of_below hbx)
 clear hbx hbe
 refine (num_any (N := fun i => ([1, 2, 0, 3, 9] : List Int).getD i 0) (o2 := 0) (n := 5) _ hl (by omega) (by omega) (by omega) HRD.out (HBY.out.only HU.out HBW.out) HBW.out HL (by omega)).mono ?_
 rintro e w5 ⟨i, hi, he, hrd, ho⟩
 obtain ⟨c, hc, hc2⟩ : ∃ c : Nat, ([1, 2, 0, 3, 9] : List Int).getD i 0 = c ∧ c ≤ 9 := by
  have := (by decide : ∀ i < 5, 0 ≤ ([1, 2, 0, 3, 9] : List Int).getD i 0 ∧ ([1, 2, 0, 3, 9] : List Int).getD i 0 ≤ 9) i hi
  exact ⟨(([1, 2, 0, 3, 9] : List Int).getD i 0).toNat, by omega, by omega⟩
 obtain rfl : e = .returned (.int .i64 c) := by rw [← hc]; exact he
 clear he hc hi HL
 replace HU := tuck (HU.out.trans ho)
 replace HG0 := tuck (HG0.out.only ho (by omega))
 replace HRD := tuck hrd
 clear ho hrd
 clear hzT hz2
 go_wp2_with fail
 go_loopw [6, 7] (fun v i wr => ∃ (n c p gq va : Nat) (ls : List Tm) (F : List Nat), n + c ≤ 9 ∧ p ≤ 2001 + 75 * n ∧ i = .int .i64 c ∧ v = .slice (some ⟨gq, 0, none⟩) n va ∧ ls.length = n ∧ RowG (w2.heap.size + 1) ls v F wr ∧ Only (w.heap.size + 1) W2 wr ∧ Rd (w.heap.size + 1) a' len' cap' p wr) (fun _ i _ => (intOf i).toNat)
 case atStart => exact ⟨0, c, pbT + 1, _, _, [], [], by omega, by omega, rfl, rfl, rfl, HG0.out, HU.out, HRD.out⟩
 case round =>
  obtain ⟨n, c, p, gq, vc, ls, F, hnc, hp, rfl, rfl, hls, hrow, hu, hr⟩ := hrel
  clear HG0 HU HRD
  have HROW := tuck hrow
  have HU := tuck hu
  have HRD := tuck hr
  clear hrow hu hr
  have hzr : w2.heap.size + 1 ≤ wr.heap.size := by have := HU.out.size; have := HZT.out; omega
  by_cases hlt : 0 < c
  ·have hlti : ((0 : Int) < (c : Int)) := by omega
   have HD := tuck (ldraw_any hl HBW.out 2 (by omega) 2 p wr (by omega) (by omega) (by omega) HRD.out (HBY.out.only HU.out HBW.out))
   go_wp2_with fail
   refine HD.out.mono ?_
   rintro e w4 ⟨T, ts, G, p2, rfl, hso, hnd, hF, -, hp2, hrd, ho⟩
   obtain ⟨ta, tc, rfl⟩ := hso.form
   have HU4 := tuck ((HU.out.trans ho).alloc (.cells #[.int .i64 T.kind, .int .i64 T.num, .slice ta T.kids.length tc] 25))
   have HRD4 := tuck (hrd.below (below1 w4 (.cells #[.int .i64 T.kind, .int .i64 T.num, .slice ta T.kids.length tc] 25)))
   have hrg := (HROW.out.only ho (by omega)).below (below1 w4 (.cells #[.int .i64 T.kind, .int .i64 T.num, .slice ta T.kids.length tc] 25))
   obtain ⟨xs, hox, hpush⟩ := hrg.grow hls
   have HRG := tuck hrg
   have HOX := tuck hox
   have HPUSH := tuck hpush
   have HS4 := tuck (hso.alloc (fun g hg => (hF g hg).2) (.cells #[.int .i64 T.kind, .int .i64 T.num, .slice ta T.kids.length tc] 25))
   have HND := tuck hnd
   have HF : Hid (∀ x ∈ G, wr.heap.size ≤ x ∧ x < w4.heap.size) := tuck hF
   have HLT := tuck HROW.out.lt
   have HFLT := tuck HROW.out.flt
   have HZ4 : Hid (wr.heap.size ≤ w4.heap.size) := tuck ho.size
   have h75 : (3 : Nat) * 5 ^ 2 = 75 := by decide
   have HP2 : Hid (p2 ≤ p + 75) := tuck (by omega)
   clear hox hpush hso hnd hF hrd ho hrg HD hp2 h75
   obtain ⟨i0, hi0, hz0', hz1', hz2'⟩ := info_parts info_termG
   have HI0 := tuck hi0
   have HI1 := tuck hz0'
   have HI2 := tuck hz1'
   have HI3 := tuck hz2'
   clear hi0 hz0' hz1' hz2'
   have hq4 : n + 1 ≤ maxLen := by unfold maxLen; omega
   have hqb : (n + 1) * 40 ≤ 140737488355328 := by omega
   go_wp2_with (at_builtin; refine wpList_append_lies _ rfl _ _ _ rfl (w2.heap.size + 1) 25 i0 _ 3 40 Try.underlying23 HI0.out HI1.out HI2.out HI3.out rfl (by omega) _ _ _ rfl HOX.out ⟨w4.heap.size, 0, none⟩ 1 1 [.int .i64 T.kind, .int .i64 T.num, .slice ta T.kids.length tc] rfl rfl ?news ?one (by omega) hq4 hqb ?base (w4.heap.size + 1) ?size ?next)
   case news => exact World.news_of_block (cs := #[.int .i64 T.kind, .int .i64 T.num, .slice ta T.kids.length tc]) (t := 25) (fr := (0, 0)) (heap_new w4 _)
   case one => simp [Value.oneCell']
   case base => have := HZ4.out; simp; omega
   case size => simp
   case next =>
    intro gg gcap w6 hown4 hgrow hat hlt4
    have HGR := tuck hgrow
    have HOWN := tuck hown4
    have HAT := tuck hat
    have hne3 : ∀ x, (Value.slice (some ⟨gq, 0, none⟩) n vc).ownBlock = some x → w2.heap.size + 1 ≤ x := fun x hx => (HLT.out x hx).1
    have HU6 : Hid (Only (w.heap.size + 1) W2 w6) := tuck (HU4.out.grown hgrow (fun x hx => by have := hne3 x hx; have := HZT.out; omega))
    have HRD6 : Hid (Rd (w.heap.size + 1) a' len' cap' p2 w6) := tuck ((hgrow.block (w.heap.size + 1) HRD4.out.facts.1 (fun e => by have := hne3 _ e.symm; omega)).trans HRD4.out)
    have HROW6 := tuck (HPUSH.out (.slice (some ⟨gg, 0, none⟩) (n + 1) gcap) _ G w6 T HS4.out HND.out (fun x hx => by
     have h1 := HF.out x hx
     refine ⟨by omega, by simp; omega, fun hf => by have := (HFLT.out x hf).2.1; omega, fun e => by have := (HLT.out x e).2; omega⟩) HOWN.out HGR.out (HAT.out.imp (fun h => h.symm) (fun h => by rw [h]; simp [Value.ownBlock])))
    clear hgrow hown4 hat
    go_wp2_with fail
    go_roundw
    case rel => exact ⟨n + 1, c - 1, p2, gg, gcap, ls ++ [T], F ++ G, by omega, by have := HP2.out; omega, by go_num, rfl, by simp [hls], HROW6.out, HU6.out, HRD6.out⟩
    case measure => simp [intOf]; omega
  ·have hge2 : ¬ ((0 : Int) < (c : Int)) := by omega
   obtain ⟨G, hG, -, hGb⟩ := HROW.out.done (by rw [hls]; unfold maxLen; omega)
   have HSL := tuck (hG.sl (B := w2.heap.size + 1) (fun x hx => (hGb x hx).1))
   have hcap := HROW.out.cap
   clear hG hGb
   have HT2 := tuck (HT.out.only HU.out hne2)
   have HV2 := tuck (HV.out.only HU.out hne)
   have HI2 := tuck (HINT.out.onlyR2 HU.out (by omega))
   have HB2 := tuck (Only.below HB.out HU.out (by omega) HB.out.size)
   clear HT HV HINT HB HBY HRD
   have hzw : w.heap.size < wr.heap.size := by omega
   obtain ⟨zt, t0, t1, t2, tf⟩ := HT2.out.facts
   obtain ⟨zv, v0, v1, v2, vf⟩ := HV2.out.facts
   go_wp2_with fail
   refine bodyPost_ret (v := .tuple #[.agg #[.int .i64 TT.kind, .int .i64 TT.num, .slice aT TT.kids.length cT], .slice (some ⟨gq, 0, none⟩) n vc]) (by simp [results, Try.results6, go_sem, *]) rfl (HP.out TT ls _ gq n vc _ hls ⟨_, rfl, ?_⟩ ?_ (by omega) hcap hszT ?_)
   ·exact (HI2.out.set3 (by omega)).mono (by omega)
   ·exact (HSL.out.set3 (by omega)).mono (by omega)
   ·exact bSet3 HB2.out (Nat.le_refl _) _ _ _ _ _ _
end Go.Proofs.Ytkjfdhdmkaofeaa
