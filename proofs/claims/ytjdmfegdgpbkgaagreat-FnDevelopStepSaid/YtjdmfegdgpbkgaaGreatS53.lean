/-
  DevS.
-/
import Derived.Test.YtjdmfegdgpbkgaaGreatS31
import Derived.Test.YtjdmfegdgpbkgaaGreatS36
namespace Go.Proofs.YtjdmfegdgpbkgaaGreat
open Go.RowKit
set_option maxRecDepth 100000 in
theorem lwhole_any (B : Nat) (t : Tm) (hr : t.rootOk) (hk : ∀ i (hi : i < t.kids.length), t.kids[i].Valid) (w : World) (hB : B ≤ w.heap.size) (s : Value) (hs : SlIn w B t.kids s) :
  Calls Tryz.prog 38 #[.agg #[.int .i64 t.kind, .int .i64 t.num, s]] w (BPost B w (if t.redex = 0 then t else t.contr)) := by
 obtain ⟨a, c, rfl⟩ := hs.form
 have hb2 := below2 w (.cells #[.int .i64 t.kind, .int .i64 t.num, .slice a t.kids.length c] 25) (.cells #[.int .i64 0, .int .i64 0, .slice none 0 0] 25)
 have HV0 := tuck ((VarAt.new w t.kind t.num (.slice a t.kids.length c)).below (below1 _ (.cells #[.int .i64 0, .int .i64 0, .slice none 0 0] 25)))
 have HV1 := tuck (var_new1 w (.cells #[.int .i64 t.kind, .int .i64 t.num, .slice a t.kids.length c] 25) 0 0 (.slice none 0 0))
 have HRED := tuck (redS_any t hr _ (.slice a t.kids.length c) ((hs.below hb2).mono (Nat.zero_le _)))
 have HB2 := tuck hb2
 have HS := tuck hs
 by_cases h0 : t.redex = 0
 ·rw [if_pos h0]
  rw [h0] at HRED
  have HP : Hid (∀ w', Below w.heap.size w w' → BPost B w t (.returned (.agg #[.int .i64 t.kind, .int .i64 t.num, .slice a t.kids.length c])) w') := tuck fun w' h1 => ⟨h1, a, c, rfl, HS.out.below h1⟩
  generalize BPost B w t = post at *
  clear hb2 hs hr hk h0 hB HS
  go_enter Tryz.func38, Tryz.ntmps38
  go_wp2_with fail
  refine HRED.out.mono ?_
  rintro e w1 ⟨rfl, hb1⟩
  obtain ⟨z0, a0, a1, a2, -⟩ := (HV0.out.below hb1).facts
  obtain ⟨z1, r0, r1, r2, rf⟩ := (HV1.out.below hb1).facts
  have HB1 := tuck (bAfter HB2.out hb1)
  clear hb1 HRED
  go_wp2_with fail
  refine bodyPost_ret (v := .agg #[.int .i64 t.kind, .int .i64 t.num, .slice a t.kids.length c]) (by simp [results, Tryz.results38, go_sem, *]) rfl (HP.out _ ?_)
  exact bSet3 HB1.out (Nat.le_succ _) _ _ _ _ _ _
 ·rw [if_neg h0]
  have hne : (t.redex == 0) = false := by simpa using h0
  have HCON : Hid (∀ w1, Below w.heap.size w w1 → Calls Tryz.prog 65 #[.agg #[.int .i64 t.kind, .int .i64 t.num, .slice a t.kids.length c]] w1 (SPost w1 t.contr)) := tuck fun w1 h => lcontract_any t hr hk h0 w1 _ ((HS.out.below h).mono (Nat.zero_le _))
  have HP : Hid (∀ w' u c', Below w.heap.size w w' → SlIn w' B t.contr.kids (.slice u t.contr.kids.length c') → BPost B w t.contr (.returned (.agg #[.int .i64 t.contr.kind, .int .i64 t.contr.num, .slice u t.contr.kids.length c'])) w') := tuck fun w' u c' h1 h2 => ⟨h1, u, c', rfl, h2⟩
  generalize BPost B w t.contr = post at *
  have HBB := tuck hB
  clear hb2 hs hr hk h0 hB HS
  generalize t.redex = R at *
  generalize t.contr = T at *
  go_enter Tryz.func38, Tryz.ntmps38
  go_wp2_with fail
  refine HRED.out.mono ?_
  rintro e w1 ⟨rfl, hb1⟩
  obtain ⟨z0, a0, a1, a2, -⟩ := (HV0.out.below hb1).facts
  obtain ⟨z1, r0, r1, r2, rf⟩ := (HV1.out.below hb1).facts
  have HB1 := tuck (bAfter HB2.out hb1)
  clear hb1 HRED
  go_wp2_with fail
  refine (HCON.out _ HB1.out).mono ?_
  rintro e w2 hp2
  obtain ⟨ua, uc, rfl, hb2, hs2⟩ := hp2.open
  replace r0 := (hb2.cell (p := ⟨w.heap.size + 1, 0, none⟩) z1).trans r0
  replace r1 := (hb2.cell (p := ⟨w.heap.size + 1, 1, none⟩) z1).trans r1
  replace r2 := (hb2.cell (p := ⟨w.heap.size + 1, 2, none⟩) z1).trans r2
  have rf2 : ∀ i, w2.frozen? ⟨w.heap.size + 1, i, none⟩ = false := fun i => (hb2.frozen (p := ⟨w.heap.size + 1, i, none⟩) z1).trans (rf i)
  have HB3 := tuck (bAfter HB1.out hb2)
  have HS2 := tuck hs2
  have HZ : Hid (w.heap.size + 1 < w1.heap.size) := tuck z1
  clear hp2 hb2 hs2 rf HCON a0 a1 a2
  go_wp2_with fail
  refine bodyPost_ret (v := .agg #[.int .i64 T.kind, .int .i64 T.num, .slice ua T.kids.length uc]) (by simp [results, Tryz.results38, go_sem, *]) rfl (HP.out _ _ _ ?_ ?_)
  ·exact bSet3 HB3.out (Nat.le_succ _) _ _ _ _ _ _
  ·exact (SlIn.set3 HS2.out HZ.out).mono (by have := HBB.out; have := HZ.out; omega)
def DPost (w : World) (r : Option Tm) (e : Ending) (w' : World) : Prop :=
 Below w.heap.size w w' ∧ ∃ (U : Tm) (s : Value), e = .returned (.tuple #[.agg #[.int .i64 U.kind, .int .i64 U.num, s], .bool r.isSome]) ∧ SlIn w' w.heap.size U.kids s ∧ (∀ T, r = some T → U = T)
theorem DPost.open {w w' : World} {r : Option Tm} {e : Ending} (h : DPost w r e w') : ∃ (U : Tm) (a : Option Addr) (c : Nat), e = .returned (.tuple #[.agg #[.int .i64 U.kind, .int .i64 U.num, .slice a U.kids.length c], .bool r.isSome]) ∧ Below w.heap.size w w' ∧ SlIn w' w.heap.size U.kids (.slice a U.kids.length c) ∧ (∀ T, r = some T → U = T) := by
 obtain ⟨hb, U, s, rfl, hs, hU⟩ := h
 obtain ⟨a, c, rfl⟩ := hs.form
 exact ⟨U, a, c, rfl, hb, hs, hU⟩
set_option maxRecDepth 100000 in
set_option maxHeartbeats 3200000 in
theorem ldev_any : ∀ (l : List Tm) (k n : Int) (w : World) (v : Value), (Tm.mk k n l).Valid → SlIn w 0 l v →
  Calls Tryz.prog 19 #[.agg #[.int .i64 k, .int .i64 n, v]] w (DPost w (Tm.mk k n l).devo) := by
 intro l
 induction l using Tm.ind with
 | h l ih =>
 intro k n w v hv hin
 obtain ⟨a, cap, bb, o, rfl, hlm, hp, hc⟩ := hin.open
 have hroot : (Tm.mk k n l).rootOk := hv.root
 have hvk : ∀ i (hi : i < l.length), l[i].Valid := fun i hi => hv.get (t := .mk k n l) hi
 have hl4 : l.length ≤ 4 := root_len hroot
 obtain ⟨res, hres⟩ : ∃ res, res = (Tm.mk k n l).devo := ⟨_, rfl⟩
 have hdev : res = (devL l).bind fun l' => @ite _ (devC (.mk k n l) l').Valid (Classical.propDecidable _) (some (devC (.mk k n l) l')) none := by rw [hres, Tm.devo]
 rw [← hres]
 have HNONE : Hid (devL l = none → ∀ w', Below w.heap.size w w' → DPost w res (.returned (.tuple #[.agg #[.int .i64 0, .int .i64 0, .slice none 0 0], .bool false])) w') := tuck fun h w' hb => by
  rw [h] at hdev
  rw [hdev]
  exact ⟨hb, zeroT, .slice none 0 0, rfl, SlIn.nil _ _ _ _, fun T h => by cases h⟩
 have HSOME : Hid (∀ l', devL l = some l' → ∀ (ua : Option Addr) (uc : Nat) w', Below w.heap.size w w' → SlIn w' w.heap.size (devC (.mk k n l) l').kids (.slice ua (devC (.mk k n l) l').kids.length uc) → DPost w res (.returned (.tuple #[.agg #[.int .i64 (devC (.mk k n l) l').kind, .int .i64 (devC (.mk k n l) l').num, .slice ua (devC (.mk k n l) l').kids.length uc], .bool (tr (devC (.mk k n l) l').Valid)])) w') := tuck fun l' h ua uc w' hb hs => by
  rw [h, Option.bind_some] at hdev
  by_cases hvv : (devC (.mk k n l) l').Valid
  ·rw [if_pos hvv] at hdev
   rw [hdev, tr_of hvv]
   exact ⟨hb, _, _, rfl, hs, fun T h => by cases h; rfl⟩
  ·rw [if_neg hvv] at hdev
   rw [hdev, tr_not hvv]
   exact ⟨hb, _, _, rfl, hs, fun T h => by cases h⟩
 have HEND : Hid (∀ l', devL l = some l' → (((Tm.mk k n l).redex != 0) = false ∧ devC (.mk k n l) l' = .mk k n l') ∨ (((Tm.mk k n l).redex != 0) = true ∧ ∀ W B, B ≤ W.heap.size → ∀ a' c', SlIn W B l' (.slice a' l'.length c') → Calls Tryz.prog 38 #[.agg #[.int .i64 k, .int .i64 n, .slice a' l'.length c']] W (BPost B W (devC (.mk k n l) l')))) := tuck fun l' h => by
  have hlen := devL_length h
  by_cases h0 : (Tm.mk k n l).redex = 0
  ·exact Or.inl ⟨by simpa using h0, if_pos h0⟩
  ·refine Or.inr ⟨by simpa using h0, fun W B hB a' c' hs => ?_⟩
   have hd := dev_redex (t := .mk k n l) hroot h h0
   have hw := lwhole_any B (.mk k n l') ⟨by show arity k = l'.length; rw [hlen]; exact hroot.1, hroot.2⟩ (fun i hi => devo_valid (devL_get h i (by rw [← hlen]; exact hi) hi)) W hB _ hs
   rw [if_neg (by show (Tm.mk k n l').redex ≠ 0; rw [show (Tm.mk k n l').redex = (Tm.mk k n l).redex from hd]; exact h0)] at hw
   rw [show devC (.mk k n l) l' = (Tm.mk k n l').contr from if_neg h0]
   exact hw
 have HRED : Hid (∀ W, Below w.heap.size w W → Calls Tryz.prog 37 #[.agg #[.int .i64 k, .int .i64 n, .slice a l.length cap]] W (IntPost W (Tm.mk k n l).redex)) := tuck fun W h =>
  redS_any (.mk k n l) hroot W (.slice a l.length cap) (hin.below h)
 have HI := tuck ih
 have HP := tuck hp
 have HC := tuck hc
 have HVK := tuck hvk
 generalize DPost w res = post at *
 clear hin hp hc ih hvk hv hdev hres hroot
 generalize (Tm.mk k n l).redex = R at *
 generalize devC (Tm.mk k n l) = C at *
 have hb2 := below2 w (.cells #[.int .i64 k, .int .i64 n, .slice a l.length cap] 25) (.cells #[.int .i64 0, .int .i64 0, .slice none 0 0] 25)
 have HV0 := tuck ((VarAt.new w k n (.slice a l.length cap)).below (below1 _ (.cells #[.int .i64 0, .int .i64 0, .slice none 0 0] 25)))
 have HV1 := tuck (var_new1 w (.cells #[.int .i64 k, .int .i64 n, .slice a l.length cap] 25) 0 0 (.slice none 0 0))
 have HB2 := tuck hb2
 have HCR := tuck (HRED.out _ hb2)
 clear hb2 HRED
 go_enter Tryz.func19, Tryz.ntmps19
 go_wp2_with fail
 refine HCR.out.mono ?_
 rintro e w1 ⟨rfl, hb1⟩
 obtain ⟨z0, a0, a1, a2, -⟩ := (HV0.out.below hb1).facts
 have hbx := below1 w1 (.cells #[.int .i64 k, .int .i64 n, .slice none 0 0] 25)
 have HB0 := tuck (bAfter (bAfter HB2.out hb1) hbx)
 have HZ0 := tuck ((HV0.out.below hb1).below hbx)
 have HZ1 := tuck ((HV1.out.below hb1).below hbx)
 have HO0 := tuck (VarAt.new w1 k n (.slice none 0 0))
 have HG : Hid (w.heap.size + 1 < w1.heap.size) := tuck (HV1.out.below hb1).facts.1
 clear hb1 hbx HCR HV0 HV1 HB2
 go_wp2_with fail
 generalize w1.alloc (.cells #[.int .i64 k, .int .i64 n, .slice none 0 0] 25) = W0 at *
 clear z0 a0 a1 a2
 generalize w1.heap.size = G at *
 go_loopw [6] (fun i wr => ∃ (q : Nat) (pre : List Tm) (vl : Value), q ≤ l.length ∧ pre.length = q ∧ i = .int .i64 q ∧ Below w.heap.size w wr ∧ VarAt w.heap.size k n (.slice a l.length cap) wr ∧ VarAt (w.heap.size + 1) 0 0 (.slice none 0 0) wr ∧ VarAt G k n vl wr ∧ RowR 0 (G + 1) pre vl wr ∧ devL l = (devL (l.drop q)).map (pre ++ ·)) (fun i _ => l.length - (intOf i).toNat)
 case atStart => exact ⟨0, [], _, Nat.zero_le _, rfl, rfl, HB0.out, HZ0.out, HZ1.out, HO0.out, RowR.nil _ _ _, by simp⟩
 case round =>
  obtain ⟨q, pre, vl, hq, hpre, rfl, hb, hv0, hv1, hvo, hrow, hdl⟩ := hrel
  have HB := tuck hb
  have HV := tuck hv0
  have HZ := tuck hv1
  have HO := tuck hvo
  have HROW := tuck hrow
  have HDL := tuck hdl
  have HPRE := tuck hpre
  clear hb hv0 hv1 hvo hrow hdl HB0 HZ0 HZ1 HO0
  obtain ⟨va, vc, rfl⟩ := HROW.out.form' hpre
  clear hpre
  obtain ⟨z0, a0, a1, a2, -⟩ := HV.out.facts
  by_cases hlt : q < l.length
  ·have hlti : ((q : Int) < (l.length : Int)) := by omega
   have hqi : (0 : Int) ≤ (q : Int) := by omega
   obtain ⟨rfl, -, hbw⟩ := HP.out (by intro e; rw [e] at hlt; simp at hlt)
   obtain ⟨s, c0, c1, c2, hs⟩ := HC.out q hlt
   obtain ⟨sa, sc, rfl⟩ := hs.form
   replace c0 := (HB.out.cell (p := ⟨bb, o + q * 3, none⟩) hbw).trans c0
   replace c1 := (HB.out.cell (p := ⟨bb, o + q * 3 + 1, none⟩) hbw).trans c1
   replace c2 := (HB.out.cell (p := ⟨bb, o + q * 3 + 2, none⟩) hbw).trans c2
   have hbr : bb < wr.heap.size := Nat.lt_of_lt_of_le hbw HB.out.size
   have HCALL : Hid (Calls Tryz.prog 19 #[.agg #[.int .i64 l[q].kind, .int .i64 l[q].num, .slice sa l[q].kids.length sc]] wr (DPost wr l[q].devo)) := tuck (by
    have := HI.out q hlt l[q].kind l[q].num wr _ (by rw [Tm.eta]; exact HVK.out q hlt) (hs.below HB.out)
    rwa [Tm.eta] at this)
   have hdr := devL_drop hlt
   have HD := tuck hdr
   clear hs HI hdr
   generalize l[q] = y at *
   go_wp2_with fail
   refine HCALL.out.mono ?_
   rintro e w3 hp3
   obtain ⟨U, ua, uc, rfl, hb3, hs3, hU⟩ := hp3.open
   have HB3 := tuck hb3
   have HS3 := tuck hs3
   clear hp3 hb3 hs3 c0 c1 c2 HCALL a0 a1 a2 z0
   cases hy : y.devo with
   | none =>
    have HN := tuck (HNONE.out (by rw [HDL.out, HD.out, hy]; rfl))
    simp only [Option.isSome_none]
    clear hU hy HSOME HEND HNONE
    obtain ⟨zr, r0, r1, r2, rf⟩ := (HZ.out.below HB3.out).facts
    go_wp2_with fail
    have hbk := below1 w3 (.cells #[.int .i64 U.kind, .int .i64 U.num, .slice ua U.kids.length uc] 25)
    obtain ⟨zr', r0', r1', r2', rf'⟩ := ((HZ.out.below HB3.out).below hbk).facts
    refine bodyPost_ret (v := .tuple #[.agg #[.int .i64 0, .int .i64 0, .slice none 0 0], .bool false]) (by simp [results, Tryz.results19, go_sem, *]) rfl (HN.out _ ?_)
    exact bAfter (bSet3 (bAfter HB.out HB3.out) (Nat.le_succ _) _ _ _ _ _ _) (below1 _ _)
   | some T =>
    obtain rfl := hU T hy
    have HD2 : Hid (devL l = (devL (l.drop (q + 1))).map ((pre ++ [U]) ++ ·)) := tuck (by
     rw [HDL.out, HD.out, hy, Option.bind_some, Option.map_map]
     congr 1
     funext m
     simp)
    simp only [Option.isSome_some]
    clear hU hy HNONE
    have HWS : Hid (wr.heap.size ≤ w3.heap.size) := tuck HB3.out.size
    obtain ⟨i0, hi0, hz0, hz1, hz2⟩ := info_parts info_termG
    have HI0 := tuck hi0
    have HI1 := tuck hz0
    have HI2 := tuck hz1
    have HI3 := tuck hz2
    clear hi0 hz0 hz1 hz2
    have hbk := bAfter HB3.out (below2 w3 (.cells #[.int .i64 U.kind, .int .i64 U.num, .slice ua U.kids.length uc] 25) (.cells #[.int .i64 U.kind, .int .i64 U.num, .slice ua U.kids.length uc] 25))
    have HBK := tuck hbk
    have HOK := tuck (HO.out.below hbk)
    obtain ⟨zo, o0, o1, o2, of⟩ := (HO.out.below (bAfter HB3.out (below1 w3 (.cells #[.int .i64 U.kind, .int .i64 U.num, .slice ua U.kids.length uc] 25)))).facts
    have HRK := tuck (HROW.out.below hbk)
    obtain ⟨xs, hox, hpush⟩ := HRK.out.grow HPRE.out
    have HOX := tuck hox
    have HPUSH := tuck hpush
    have HLT := tuck HROW.out.lt
    have hq4 : q + 1 ≤ maxLen := by unfold maxLen; omega
    have hqb : (q + 1) * 40 ≤ 140737488355328 := by omega
    clear hox hpush hbk
    go_wp2_with (at_builtin; refine wpList_append_lies _ rfl _ _ _ rfl (G + 1) 25 i0 _ 3 40 Tryz.underlying23 HI0.out HI1.out HI2.out HI3.out rfl (by omega) _ _ _ rfl HOX.out ⟨w3.heap.size + 1, 0, none⟩ 1 1 [.int .i64 U.kind, .int .i64 U.num, .slice ua U.kids.length uc] rfl rfl ?news ?one (by omega) hq4 hqb ?base (w3.heap.size + 1 + 1) ?size ?next)
    case news => exact World.news_of_block (cs := #[.int .i64 U.kind, .int .i64 U.num, .slice ua U.kids.length uc]) (t := 25) (fr := (0, 0)) (by have := heap_new (w3.alloc (.cells #[.int .i64 U.kind, .int .i64 U.num, .slice ua U.kids.length uc] 25)) (.cells #[.int .i64 U.kind, .int .i64 U.num, .slice ua U.kids.length uc] 25); simpa using this)
    case one => simp [Value.oneCell']
    case base => have := HWS.out; have := HO.out.facts.1; simp; omega
    case size => simp
    case next =>
     intro gg gcap w4 hown4 hgrow hat hlt4
     have hfar : ∀ B, B ≤ G → some B ≠ (Value.slice va q vc).ownBlock := fun B hB e => by have := (HLT.out _ e.symm).1; omega
     obtain ⟨k0, k1, k2, k3, kf⟩ := (HOK.out.grown hgrow (hfar G (Nat.le_refl _))).facts
     have HGR := tuck hgrow
     have HOWN := tuck hown4
     have HAT := tuck hat
     have HFAR := tuck hfar
     clear hgrow hown4 hat hfar zo o0 o1 o2 of
     go_wp2_with fail
     go_roundw
     case rel =>
      have hg0 : w.heap.size + 1 < G := HG.out
      have hzo := HO.out.facts.1
      have hws := HWS.out
      refine ⟨q + 1, pre ++ [U], .slice (some ⟨gg, 0, none⟩) (q + 1) gcap, by omega, by rw [List.length_append, HPRE.out]; rfl, by go_num, ?_, ?_, ?_, ?_, ?_, HD2.out⟩
      ·exact ((bAfter HB.out HBK.out).grown HGR.out (bAfter HB.out HBK.out).size (fun g hg => by have := (HLT.out g hg).1; omega)).setCell (by show w.heap.size ≤ G; omega) _
      ·exact ((HV.out.below HBK.out).grown HGR.out (HFAR.out _ (by omega))).far (by show w.heap.size ≠ G; omega) _
      ·exact ((HZ.out.below HBK.out).grown HGR.out (HFAR.out _ (by omega))).far (by show w.heap.size + 1 ≠ G; omega) _
      ·exact (HOK.out.grown HGR.out (HFAR.out _ (Nat.le_refl _))).set2
      ·refine (HPUSH.out _ _ w4 U (SlX.of_sl (B := wr.heap.size) (HS3.out.below (below2 w3 _ _)) (fun i hi => ?_)) HOWN.out HGR.out (HAT.out.imp (fun h => h.symm) (fun h => by rw [h]; simp [Value.ownBlock]))).setCell (Nat.zero_le _) (by show G < G + 1; omega) _
       rcases hi with hi | hi
       ·omega
       ·exact (HLT.out i hi).2
     case measure => simp [intOf]; omega
  ·have hge2 : ¬ ((q : Int) < (l.length : Int)) := by omega
   have e : q = l.length := by omega
   have hdl : devL l = some pre := by rw [HDL.out, e, List.drop_length, devL]; simp
   obtain rfl : pre.length = q := HPRE.out
   have hzw : G < wr.heap.size := HO.out.facts.1
   have hpre : SlIn wr (G + 1) pre (.slice va pre.length vc) := SlX.from ((HROW.out.done (by unfold maxLen; omega)).narrow fun i h => ⟨Nat.zero_le _, h⟩)
   have HPREV := tuck hpre
   have HFIN := tuck (HSOME.out pre hdl)
   have HE := HEND.out pre hdl
   have hg1 : w.heap.size + 1 < G := HG.out
   clear hdl hpre HSOME HNONE HEND HDL HPRE HI HC HP HVK HROW e
   rcases HE with ⟨hR, hC⟩ | ⟨hR, hC⟩
   ·rw [hC] at HFIN
    obtain ⟨T, hT⟩ : ∃ T, T = Tm.mk k n pre := ⟨_, rfl⟩
    have HVE : Hid (VarAt G T.kind T.num (.slice va T.kids.length vc) wr) := tuck (by subst hT; exact HO.out)
    have HSE : Hid (SlIn wr (G + 1) T.kids (.slice va T.kids.length vc)) := tuck (by subst hT; exact HPREV.out)
    rw [← hT] at HFIN
    have HVAL : Hid (∀ (W : World) (s : Value), SlIn W 0 T.kids s → Calls Tryz.prog 18 #[.agg #[.int .i64 T.kind, .int .i64 T.num, s]] W (BoolPost W (tr T.Valid))) := tuck fun W s h => validS_any T W _ ⟨_, rfl, h⟩
    generalize tr T.Valid = cc at *
    have HRE := HZ
    have HBE := HB
    clear hT hC HPREV HO
    go_wp2_with fail
    obtain ⟨ta, hta⟩ : ∃ ta, ta = va := ⟨_, rfl⟩
    obtain ⟨tc, htc⟩ : ∃ tc, tc = vc := ⟨_, rfl⟩
    obtain ⟨WE, hWE⟩ : ∃ WE, WE = wr := ⟨_, rfl⟩
    subst hWE
    rw [← hta, ← htc] at HVE HSE
    clear hta htc
    have hgn : G ≠ w.heap.size + 1 := by omega
    have HQ0 : Hid ((fun w' : World => G < w'.heap.size ∧ w'.cell? ⟨G, 0, none⟩ = some (.int .i64 T.kind) ∧ w'.cell? ⟨G, 1, none⟩ = some (.int .i64 T.num) ∧ w'.cell? ⟨G, 2, none⟩ = some (.slice ta T.kids.length tc)) WE.drew) := tuck ⟨HVE.out.facts.1, HVE.out.facts.2.1, HVE.out.facts.2.2.1, HVE.out.facts.2.2.2.1⟩
    go_region_held3 (fun w' => G < w'.heap.size ∧ w'.cell? ⟨G, 0, none⟩ = some (.int .i64 T.kind) ∧ w'.cell? ⟨G, 1, none⟩ = some (.int .i64 T.num) ∧ w'.cell? ⟨G, 2, none⟩ = some (.slice ta T.kids.length tc)) (first | exact HQ0.out | exact HK2.out | exact HK3.out) ((go_at_call 18; refine (HVAL.out _ _ ((HSE.out.below (Below.refl _ _).drew).mono (Nat.zero_le _))).mono ?_; rintro e w2 ⟨rfl, hb2⟩; have HB2 := tuck (bAfter HBE.out (bAfter (Below.refl _ _).drew hb2)); have HS2 := tuck ((HSE.out.below (Below.refl _ _).drew).below hb2); have HQN2 := tuck ((HVE.out.below (Below.refl _ _).drew).below hb2); have HQN3 := tuck (HQN2.out.far3 hgn 0 1 2 (.int .i64 T.kind) (.int .i64 T.num) (.slice ta T.kids.length tc)); have HK2 : Hid ((fun w' : World => G < w'.heap.size ∧ w'.cell? ⟨G, 0, none⟩ = some (.int .i64 T.kind) ∧ w'.cell? ⟨G, 1, none⟩ = some (.int .i64 T.num) ∧ w'.cell? ⟨G, 2, none⟩ = some (.slice ta T.kids.length tc)) w2) := tuck ⟨HQN2.out.facts.1, HQN2.out.facts.2.1, HQN2.out.facts.2.2.1, HQN2.out.facts.2.2.2.1⟩; have HK3 := tuck (show (fun w' : World => G < w'.heap.size ∧ w'.cell? ⟨G, 0, none⟩ = some (.int .i64 T.kind) ∧ w'.cell? ⟨G, 1, none⟩ = some (.int .i64 T.num) ∧ w'.cell? ⟨G, 2, none⟩ = some (.slice ta T.kids.length tc)) _ from ⟨HQN3.out.facts.1, HQN3.out.facts.2.1, HQN3.out.facts.2.2.1, HQN3.out.facts.2.2.2.1⟩); obtain ⟨zr, r0, r1, r2, rf⟩ := ((HRE.out.below (Below.refl _ _).drew).below hb2).facts; clear hb2))
    all_goals (try go_wp2_with fail)
    all_goals
     refine bodyPost_ret (v := .tuple #[.agg #[.int .i64 T.kind, .int .i64 T.num, .slice ta T.kids.length tc], .bool cc]) (by simp [results, Tryz.results19, go_sem, *]) rfl (HFIN.out _ _ _ ?_ ?_)
     ·exact bSet3 HB2.out (Nat.le_succ _) _ _ _ _ _ _
     ·exact (SlIn.set3 HS2.out (by omega)).mono (by omega)
   ·have HCALL := tuck (hC wr (G + 1) (by omega) _ _ HPREV.out)
    generalize C pre = T at *
    have HVAL : Hid (∀ (W : World) (s : Value), SlIn W 0 T.kids s → Calls Tryz.prog 18 #[.agg #[.int .i64 T.kind, .int .i64 T.num, s]] W (BoolPost W (tr T.Valid))) := tuck fun W s h => validS_any T W _ ⟨_, rfl, h⟩
    generalize tr T.Valid = cc at *
    obtain ⟨zo, o0, o1, o2, of⟩ := HO.out.facts
    clear hC HPREV
    go_wp2_with fail
    refine HCALL.out.mono ?_
    rintro e w5 ⟨hb5, ta, tc, rfl, hs5⟩
    obtain ⟨zo, o0, o1, o2, of⟩ := (HO.out.below hb5).facts
    have HVE5 := tuck (VarAt.set (k' := T.kind) (n' := T.num) (s' := .slice ta T.kids.length tc) (HO.out.below hb5))
    have HSE5 := tuck (SlIn.set3 (i := 0) (j := 1) (k := 2) (x := .int .i64 T.kind) (y := .int .i64 T.num) (z := .slice ta T.kids.length tc) hs5 (Nat.lt_succ_self G))
    have HRE5 := tuck ((HZ.out.below hb5).far3 (show w.heap.size + 1 ≠ G by omega) 0 1 2 (.int .i64 T.kind) (.int .i64 T.num) (.slice ta T.kids.length tc))
    have HBE5 := tuck (bSet3 (bAfter HB.out hb5) (show w.heap.size ≤ G by omega) 0 1 2 (.int .i64 T.kind) (.int .i64 T.num) (.slice ta T.kids.length tc))
    clear hb5 hs5 a0 a1 a2 z0 HCALL
    go_wp2_with fail
    have HVE : Hid (VarAt G T.kind T.num (.slice ta T.kids.length tc) _) := HVE5
    have HSE := HSE5
    have HRE := HRE5
    have HBE := HBE5
    clear HVE5 HSE5 HRE5 HBE5 zo o0 o1 o2 of
    generalize (((w5.setCell ⟨G, 0, none⟩ (.int .i64 T.kind)).setCell ⟨G, 1, none⟩ (.int .i64 T.num)).setCell ⟨G, 2, none⟩ (.slice ta T.kids.length tc)) = WE at *
    have hgn : G ≠ w.heap.size + 1 := by omega
    have HQ0 : Hid ((fun w' : World => G < w'.heap.size ∧ w'.cell? ⟨G, 0, none⟩ = some (.int .i64 T.kind) ∧ w'.cell? ⟨G, 1, none⟩ = some (.int .i64 T.num) ∧ w'.cell? ⟨G, 2, none⟩ = some (.slice ta T.kids.length tc)) WE.drew) := tuck ⟨HVE.out.facts.1, HVE.out.facts.2.1, HVE.out.facts.2.2.1, HVE.out.facts.2.2.2.1⟩
    go_region_held3 (fun w' => G < w'.heap.size ∧ w'.cell? ⟨G, 0, none⟩ = some (.int .i64 T.kind) ∧ w'.cell? ⟨G, 1, none⟩ = some (.int .i64 T.num) ∧ w'.cell? ⟨G, 2, none⟩ = some (.slice ta T.kids.length tc)) (first | exact HQ0.out | exact HK2.out | exact HK3.out) ((go_at_call 18; refine (HVAL.out _ _ ((HSE.out.below (Below.refl _ _).drew).mono (Nat.zero_le _))).mono ?_; rintro e w2 ⟨rfl, hb2⟩; have HB2 := tuck (bAfter HBE.out (bAfter (Below.refl _ _).drew hb2)); have HS2 := tuck ((HSE.out.below (Below.refl _ _).drew).below hb2); have HQN2 := tuck ((HVE.out.below (Below.refl _ _).drew).below hb2); have HQN3 := tuck (HQN2.out.far3 hgn 0 1 2 (.int .i64 T.kind) (.int .i64 T.num) (.slice ta T.kids.length tc)); have HK2 : Hid ((fun w' : World => G < w'.heap.size ∧ w'.cell? ⟨G, 0, none⟩ = some (.int .i64 T.kind) ∧ w'.cell? ⟨G, 1, none⟩ = some (.int .i64 T.num) ∧ w'.cell? ⟨G, 2, none⟩ = some (.slice ta T.kids.length tc)) w2) := tuck ⟨HQN2.out.facts.1, HQN2.out.facts.2.1, HQN2.out.facts.2.2.1, HQN2.out.facts.2.2.2.1⟩; have HK3 := tuck (show (fun w' : World => G < w'.heap.size ∧ w'.cell? ⟨G, 0, none⟩ = some (.int .i64 T.kind) ∧ w'.cell? ⟨G, 1, none⟩ = some (.int .i64 T.num) ∧ w'.cell? ⟨G, 2, none⟩ = some (.slice ta T.kids.length tc)) _ from ⟨HQN3.out.facts.1, HQN3.out.facts.2.1, HQN3.out.facts.2.2.1, HQN3.out.facts.2.2.2.1⟩); obtain ⟨zr, r0, r1, r2, rf⟩ := ((HRE.out.below (Below.refl _ _).drew).below hb2).facts; clear hb2))
    all_goals (try go_wp2_with fail)
    all_goals
     refine bodyPost_ret (v := .tuple #[.agg #[.int .i64 T.kind, .int .i64 T.num, .slice ta T.kids.length tc], .bool cc]) (by simp [results, Tryz.results19, go_sem, *]) rfl (HFIN.out _ _ _ ?_ ?_)
     ·exact bSet3 HB2.out (Nat.le_succ _) _ _ _ _ _ _
     ·exact (SlIn.set3 HS2.out (by omega)).mono (by omega)
set_option maxRecDepth 100000 in
theorem developS_any (t : Tm) (w : World) (v : Value) (h : TmIn w 0 t v) : Calls Tryz.prog 7 #[v] w (SReplPost w (DevOk t) t.dev) := by
 obtain ⟨s, rfl, hs⟩ := h
 obtain ⟨a, c, rfl⟩ := hs.form
 have hb2 := below2 w (.cells #[.int .i64 t.kind, .int .i64 t.num, .slice a t.kids.length c] 25) (.cells #[.int .i64 0, .int .i64 0, .slice none 0 0] 25)
 have HV0 := tuck ((VarAt.new w t.kind t.num (.slice a t.kids.length c)).below (below1 _ (.cells #[.int .i64 0, .int .i64 0, .slice none 0 0] 25)))
 have HV1 := tuck (var_new1 w (.cells #[.int .i64 t.kind, .int .i64 t.num, .slice a t.kids.length c] 25) 0 0 (.slice none 0 0))
 have HVAL := tuck (validS_any t _ _ ⟨_, rfl, hs.below hb2⟩)
 have HB2 := tuck hb2
 have HS := tuck hs
 have HN : Hid (¬ DevOk t → ∀ w', Below w.heap.size w w' → SReplPost w (DevOk t) t.dev (.returned (.tuple #[.agg #[.int .i64 0, .int .i64 0, .slice none 0 0], .bool false])) w') := tuck fun h w' hb => SReplPost.no h hb
 have HY : Hid (DevOk t → ∀ w' s, Below w.heap.size w w' → SlIn w' 0 t.dev.kids s → SReplPost w (DevOk t) t.dev (.returned (.tuple #[.agg #[.int .i64 t.dev.kind, .int .i64 t.dev.num, s], .bool true])) w') := tuck fun h w' s h1 h2 => SReplPost.yes h h1 h2
 clear hb2 hs
 generalize hpost : SReplPost w (DevOk t) t.dev = post at *
 by_cases hv : t.Valid
 ·rw [tr_of hv] at HVAL
  have HDEV : Hid (∀ w1, Below w.heap.size w w1 → Calls Tryz.prog 19 #[.agg #[.int .i64 t.kind, .int .i64 t.num, .slice a t.kids.length c]] w1 (DPost w1 t.devo)) := tuck fun w1 h => by
   have := ldev_any t.kids t.kind t.num w1 _ (by rw [Tm.eta]; exact hv) (HS.out.below h)
   rwa [Tm.eta] at this
  have HYN : Hid ((t.devo.isSome = false ∧ ¬ DevOk t) ∨ (t.devo.isSome = true ∧ DevOk t ∧ t.devo = some t.dev)) := tuck (by
   cases hd : t.devo with
   | none => exact Or.inl ⟨rfl, fun h => by have := h.2; rw [hd] at this; cases this⟩
   | some T => exact Or.inr ⟨rfl, ⟨hv, by rw [hd]; rfl⟩, by rw [dev_of hd]⟩)
  clear hpost HS hv
  generalize t.dev = T at *
  generalize t.devo = O at *
  go_enter Tryz.func7, Tryz.ntmps7
  go_wp2_with fail
  refine HVAL.out.mono ?_
  rintro e w1 ⟨rfl, hb1⟩
  obtain ⟨z0, a0, a1, a2, -⟩ := (HV0.out.below hb1).facts
  have HB1 := tuck (bAfter HB2.out hb1)
  have HR1 := tuck (HV1.out.below hb1)
  have HZW : Hid (w.heap.size + 1 < w1.heap.size) := tuck (HV1.out.below hb1).facts.1
  clear hb1 HVAL HV0 HV1
  go_wp2_with fail
  refine (HDEV.out _ HB1.out).mono ?_
  rintro e w2 hp2
  obtain ⟨U, ua, uc, rfl, hb2, hs2, hU⟩ := hp2.open
  obtain ⟨zr, r0, r1, r2, rf⟩ := (HR1.out.below hb2).facts
  have HB3 := tuck (bAfter HB1.out hb2)
  have HS2 := tuck hs2
  have HR2 := tuck (HR1.out.below hb2)
  clear hp2 hb2 hs2 HDEV a0 a1 a2 z0
  have hbk := below1 w2 (.cells #[.int .i64 U.kind, .int .i64 U.num, .slice ua U.kids.length uc] 25)
  have HBK := tuck hbk
  obtain ⟨zr', r0', r1', r2', rf'⟩ := (HR2.out.below hbk).facts
  clear hbk
  rcases HYN.out with ⟨hd, hok⟩ | ⟨hd, hok, hT⟩
  ·rw [hd]
   replace HN := tuck (HN.out hok)
   clear HYN HY hok hd hU
   go_wp2_with fail
   refine bodyPost_ret (v := .tuple #[.agg #[.int .i64 0, .int .i64 0, .slice none 0 0], .bool false]) (by simp [results, Tryz.results7, go_sem, *]) rfl (HN.out _ ?_)
   exact bAfter (bSet3 HB3.out (Nat.le_succ _) _ _ _ _ _ _) (below1 _ _)
  ·rw [hd]
   obtain rfl := hU T hT
   replace HY := tuck (HY.out hok)
   clear HYN HN hok hd hU hT
   go_wp2_with fail
   refine bodyPost_ret (v := .tuple #[.agg #[.int .i64 U.kind, .int .i64 U.num, .slice ua U.kids.length uc], .bool true]) (by simp [results, Tryz.results7, go_sem, *]) rfl (HY.out _ _ ?_ ?_)
   ·exact bAfter (bSet3 HB3.out (Nat.le_succ _) _ _ _ _ _ _) (below1 _ _)
   ·exact ((SlIn.set3 HS2.out HZW.out).below (below1 _ _)).mono (Nat.zero_le _)
 ·rw [tr_not hv] at HVAL
  replace HN := tuck (HN.out (fun h => hv h.1))
  clear hpost HS hv HY
  go_enter Tryz.func7, Tryz.ntmps7
  go_wp2_with fail
  refine HVAL.out.mono ?_
  rintro e w1 ⟨rfl, hb1⟩
  obtain ⟨z0, a0, a1, a2, -⟩ := (HV0.out.below hb1).facts
  obtain ⟨z1, r0, r1, r2, rf⟩ := (HV1.out.below hb1).facts
  have HB1 := tuck (bAfter HB2.out hb1)
  clear hb1 HVAL
  go_wp2_with fail
  refine bodyPost_ret (v := .tuple #[.agg #[.int .i64 0, .int .i64 0, .slice none 0 0], .bool false]) (by simp [results, Tryz.results7, go_sem, *]) rfl (HN.out _ ?_)
  exact bSet3 HB1.out (Nat.le_succ _) _ _ _ _ _ _
end Go.Proofs.YtjdmfegdgpbkgaaGreat
