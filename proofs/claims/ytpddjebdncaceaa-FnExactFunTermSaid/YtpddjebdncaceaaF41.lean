/-
  CurG.
-/
import Derived.Test.YtpddjebdncaceaaF38
import Derived.Test.YtpddjebdncaceaaF40
namespace Go.Proofs.Ytpddjebdncaceaa
open Go.RowKit
set_option linter.unusedVariables false
def wholeOf (s : ByteArray) (o : Option (Tm × Nat × Nat)) : Option Tm := match o with
 | none => none
 | some x => if x.2.1 = s.size then some x.1 else none
def OptPost (g : Nat) (w : World) (o : Option Tm) (e : Ending) (w' : World) : Prop := Turn g w w' ∧ ∃ v, e = .returned (.tuple #[v, .bool o.isSome]) ∧ Made w.heap.size (o.getD (.mk 0 0 [])) v w'
set_option maxRecDepth 100000 in
set_option maxHeartbeats 1600000 in
theorem rd_whole_any (g : Nat) (s : ByteArray) (hs : s.size ≤ 1152921504606846976) (fo p : Value) (F : FuncId) (T : TypeId) (hfm : FormOk fo p F T) (R : World → Prop) (hR : ∀ w w' : World, g < w.heap.size → Turn g w w' → R w → R w') (o : Option (Tm × Nat × Nat))
  (HT : ∀ (w : World), R w → Cur g s 0 0 fo w → Calls Try.prog F #[p, .int .i64 1] w (TmPost g s fo w o)) (ho : ∀ x, o = some x → x.2.1 ≤ s.size) (w : World) (hw : R w) (hcu : Cur g s 0 0 fo w) :
  Calls Try.prog 39 #[.pointer (some ⟨g, 0, none⟩)] w (OptPost g w (wholeOf s o)) := by
 obtain ⟨hfo, hmeth, hcall⟩ := hfm
 subst hfo
 have hg := hcu.facts.1
 have HNO : Hid (∀ w', wholeOf s o = none → Turn g w w' → OptPost g w (wholeOf s o) (.returned (.tuple #[.agg #[.int .i64 0, .int .i64 0, .slice none 0 0], .bool false])) w') := tuck fun w' h ht => by
  rw [h]; exact ⟨ht, _, rfl, _, [], rfl, SlOwn.nil _ _ _, List.nodup_nil, fun g h => by cases h⟩
 have HYES : Hid (∀ w' x v, wholeOf s o = some x → Turn g w w' → Made w.heap.size x v w' → OptPost g w (wholeOf s o) (.returned (.tuple #[v, .bool true])) w') := tuck fun w' x v h ht hm => by rw [h]; exact ⟨ht, _, rfl, hm⟩
 generalize OptPost g w (wholeOf s o) = post at *
 have hb := below1 w (.cells #[.int .i64 0, .int .i64 0, .slice none 0 0] 24)
 have HTC := tuck (HT (w.alloc (.cells #[.int .i64 0, .int .i64 0, .slice none 0 0] 24)) (hR _ _ hg (Turn.of_below hb) hw) (hcu.below hb))
 have HV1 := tuck (VarAt.new w 0 0 (.slice none 0 0))
 have HB1 := tuck hb
 obtain ⟨hg1, c0, c1, c2, c3, cf⟩ := (hcu.below hb).facts
 have hz1 : w.heap.size < (w.alloc (.cells #[.int .i64 0, .int .i64 0, .slice none 0 0] 24)).heap.size := by simp
 have HO := tuck ho
 clear HT hR hw hcu hb ho c0 c1 c2 cf
 go_enter Try.func39, Try.ntmps39
 go_wp2_with fail
 generalize w.alloc (.cells #[.int .i64 0, .int .i64 0, .slice none 0 0] 24) = W1 at *
 with_reducible refine HTC.out.mono ?_
 clear hmeth hcall c3
 rintro e w2 ⟨ht2, hm2⟩
 have HV2 := tuck (HV1.out.only ht2.1 (by omega))
 have HT2 := tuck ((Turn.of_below HB1.out).trans ht2)
 have HZ2 := tuck ht2.size
 clear ht2 HV1
 cases ho : o with
 | none =>
  rw [ho] at hm2
  obtain rfl := hm2
  have HN := tuck (fun w' => HNO.out w' (by rw [ho]; rfl))
  obtain ⟨zv, v0, v1, v2, vf⟩ := (HV2.out.below (below1 w2 (.cells #[.int .i64 0, .int .i64 0, .slice none 0 0] 24))).facts
  have HR := tuck ((HT2.out.alloc (.cells #[.int .i64 0, .int .i64 0, .slice none 0 0] 24)).drewN)
  clear ho HV2
  go_wp2_with fail
  go_quiet (fail)
  go_wp2_with fail
  exact bodyPost_ret (v := .tuple #[.agg #[.int .i64 0, .int .i64 0, .slice none 0 0], .bool false]) (by simp [results, Try.results39, go_sem, *]) rfl (HN.out _ ((HR.out _).set3 (Nat.le_refl _) hg _ _ _ _ _ _))
 | some x =>
  rw [ho] at hm2
  obtain ⟨v, rfl, ⟨sx, Fx, rfl, hox, hnx, hFx⟩, hcx⟩ := hm2
  obtain ⟨sa, sc, rfl⟩ := hox.form
  have hx1 := HO.out x ho
  have hbx := below1 w2 (.cells #[.int .i64 x.1.kind, .int .i64 x.1.num, .slice sa x.1.kids.length sc] 24)
  obtain ⟨zx, x0, x1, x2, xf⟩ := (VarAt.new w2 x.1.kind x.1.num (.slice sa x.1.kids.length sc)).facts
  obtain ⟨zv, v0, v1, v2, vf⟩ := (HV2.out.below hbx).facts
  obtain ⟨zg, c0, c1, c2, c3, cf⟩ := (hcx.below hbx).facts
  have HT3 := tuck ((HT2.out.below hbx).drewN)
  have HOX : Hid (∀ n, SlOwn ((w2.alloc (.cells #[.int .i64 x.1.kind, .int .i64 x.1.num, .slice sa x.1.kids.length sc] 24)).drewN n) x.1.kids (.slice sa x.1.kids.length sc) Fx) := tuck (fun n => hox.below (fun y hy => (hFx y hy).2) (bDrewN hbx n))
  have HNX := tuck hnx
  have HFX := tuck hFx
  have hsz3 : w2.heap.size < (w2.alloc (.cells #[.int .i64 x.1.kind, .int .i64 x.1.num, .slice sa x.1.kids.length sc] 24)).heap.size := by simp
  have hx1i : (x.2.1 : Int) ≤ (s.size : Int) := by omega
  clear hox hnx hFx hcx hbx HV2 c2 c3 cf
  by_cases he : x.2.1 = s.size
  ·have HY := tuck (fun w' v => HYES.out w' x.1 v (by rw [ho]; unfold wholeOf; dsimp only; rw [if_pos he]))
   have hne : ((x.2.1 : Int) != (s.size : Int)) = false := by simp; omega
   clear ho
   go_wp2_with fail
   generalize w2.alloc (.cells #[.int .i64 x.1.kind, .int .i64 x.1.num, .slice sa x.1.kids.length sc] 24) = W3 at *
   go_quiet (fail)
   go_wp2_with fail
   refine bodyPost_ret (v := .tuple #[.agg #[.int .i64 x.1.kind, .int .i64 x.1.num, .slice sa x.1.kids.length sc], .bool true]) (by simp [results, Try.results39, go_sem, *]) rfl (HY.out _ _ ((HT3.out _).set3 (Nat.le_refl _) hg _ _ _ _ _ _) ⟨_, Fx, rfl, (HOX.out _).set3 (fun h => by have := (HFX.out _ h).1; omega) _ _ _ _ _ _, HNX.out, fun y hy => ?_⟩)
   rw [size_set3]
   have := HFX.out y hy
   have h3 : ∀ n, (W3.drewN n).heap.size = W3.heap.size := fun n => rfl
   rw [h3]
   omega
  ·have HN := tuck (fun w' => HNO.out w' (by rw [ho]; unfold wholeOf; dsimp only; rw [if_neg he]))
   have hne : ((x.2.1 : Int) != (s.size : Int)) = true := by simp; omega
   clear ho
   go_wp2_with fail
   generalize w2.alloc (.cells #[.int .i64 x.1.kind, .int .i64 x.1.num, .slice sa x.1.kids.length sc] 24) = W3 at *
   go_quiet (fail)
   go_wp2_with fail
   exact bodyPost_ret (v := .tuple #[.agg #[.int .i64 0, .int .i64 0, .slice none 0 0], .bool false]) (by simp [results, Try.results39, go_sem, *]) rfl (HN.out _ ((HT3.out _).set3 (Nat.le_refl _) hg _ _ _ _ _ _))
theorem rd_newCur_any (s : ByteArray) (w : World) : Calls Try.prog 38 #[.string s] w (fun e w' => e = .returned (.pointer (some ⟨w.heap.size, 0, none⟩)) ∧ Below w.heap.size w w' ∧ Cur w.heap.size s 0 0 (.iface 54 (.pointer (some ⟨w.heap.size, 0, none⟩))) w') := by
 go_enter Try.func38, Try.ntmps38
 go_wp2
 go_ret
 refine ⟨rfl, below1 _ _, ?_⟩
 exact ⟨_, _, heap_new _ _, rfl, rfl, rfl, rfl⟩
theorem form_plain (g : Nat) : FormOk (.iface 54 (.pointer (some ⟨g, 0, none⟩))) (.pointer (some ⟨g, 0, none⟩)) 65 54 :=
 ⟨rfl, fun _ _ => by kernel_rfl, fun _ _ => by kernel_rfl⟩
theorem parsed_whole (s : ByteArray) : parsed s = wholeOf s (ct s 30 0 0) := by rw [parsed_ct]; rfl
set_option maxRecDepth 100000 in
theorem parseI_any (s : ByteArray) (hs : s.size ≤ 1152921504606846976) (w : World) : Calls Try.prog 27 #[.string s] w (fun e w' => Below w.heap.size w w' ∧ ∃ v, e = .returned (.tuple #[v, .bool (parsed s).isSome]) ∧ Made w.heap.size ((parsed s).getD zeroT) v w') := by
 obtain ⟨post, hpost⟩ : ∃ post : Ending → World → Prop, post = (fun e w' => Below w.heap.size w w' ∧ ∃ v, e = .returned (.tuple #[v, .bool (parsed s).isSome]) ∧ Made w.heap.size ((parsed s).getD zeroT) v w') := ⟨_, rfl⟩
 rw [← hpost]
 have HPO := tuck hpost
 clear hpost
 have HB1 := tuck (below1 w (.cells #[.int .i64 0, .int .i64 0, .slice none 0 0] 24))
 have HV1 := tuck (VarAt.new w 0 0 (.slice none 0 0))
 have HN := tuck (rd_newCur_any s (w.alloc (.cells #[.int .i64 0, .int .i64 0, .slice none 0 0] 24)))
 have hz1 : w.heap.size < (w.alloc (.cells #[.int .i64 0, .int .i64 0, .slice none 0 0] 24)).heap.size := by simp
 go_enter Try.func27, Try.ntmps27
 go_wp2_with fail
 generalize w.alloc (.cells #[.int .i64 0, .int .i64 0, .slice none 0 0] 24) = W1 at *
 refine HN.out.mono ?_
 rintro e w2 ⟨rfl, hb2, hcu⟩
 have HV2 := tuck (HV1.out.below hb2)
 have HB2 := tuck (bAfter HB1.out hb2)
 have hgz := hcu.facts.1
 have HW := tuck (rd_whole_any W1.heap.size s hs _ _ _ _ (form_plain W1.heap.size) (fun _ => True) (fun _ _ _ _ _ => trivial) (ct s 30 0 0) (fun w _ h => rd_cterm_ok W1.heap.size s hs _ _ (form_plain W1.heap.size) 30 (Nat.le_refl _) 0 0 w h (Nat.zero_le _) (by decide)) (fun x h => (ct_in (Nat.zero_le _) (by decide) h).1) w2 trivial hcu)
 rw [← parsed_whole] at HW
 generalize parsed s = o at *
 clear hb2 hcu HN
 go_wp2_with fail
 refine HW.out.mono ?_
 rintro e w3 ⟨ht3, v, rfl, sv, F, rfl, ho, hn, hF⟩
 obtain ⟨sa, sc, rfl⟩ := ho.form
 obtain ⟨zv, v0, v1, v2, vf⟩ := (HV2.out.only ht3.1 (by omega)).facts
 have hz : Below w.heap.size w w3 := Only.below HB2.out ht3.1 (by omega) HB2.out.size
 have HZ := tuck hz
 have HOW := tuck ho
 have HF := tuck hF
 have HNN := tuck hn
 have HTS := tuck ht3.size
 have HT0 : Hid (o.getD (.mk 0 0 []) = o.getD zeroT) := tuck rfl
 clear ht3 ho hF hn hz HW
 have hb := HPO.out
 generalize o.isSome = b at *
 go_wp2_with fail
 refine bodyPost_ret (v := .tuple #[.agg #[.int .i64 (o.getD (.mk 0 0 [])).kind, .int .i64 (o.getD (.mk 0 0 [])).num, .slice sa (o.getD (.mk 0 0 [])).kids.length sc], .bool b]) (by simp [results, Try.results27, go_sem, *]) rfl ?_
 rw [hb]
 refine ⟨bSet3 HZ.out (Nat.le_refl _) _ _ _ _ _ _, _, rfl, _, F, rfl, HOW.out.set3 (fun h => by have := (HF.out _ h).1; omega) _ _ _ _ _ _, HNN.out, fun y hy => ?_⟩
 rw [size_set3]
 have := HF.out y hy
 omega
end Go.Proofs.Ytpddjebdncaceaa
