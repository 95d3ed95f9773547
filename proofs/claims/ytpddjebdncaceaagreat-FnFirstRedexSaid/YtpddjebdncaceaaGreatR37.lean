/-
  PlZ.
-/
import Derived.Test.YtpddjebdncaceaaGreatR18
import Derived.Test.YtpddjebdncaceaaGreatR33
import Derived.Test.YtpddjebdncaceaaGreatR36
namespace Go.Proofs.YtpddjebdncaceaaGreat
open Go.RowKit Go.Shelf
set_option linter.unusedSimpArgs false
attribute [local go_sem] Oper.semAt_some
def LOwn (w : World) (L : List ((Int → Int) × Nat)) (e : Ending) (w' : World) : Prop := Below w.heap.size w w' ∧ ∃ v, e = .returned v ∧ RowQ (fun _ => False) w.heap.size L v w'
theorem set_one {W : World} {b : Nat} {v v' : Value} {T : TypeId} (h : W.heap[b]? = some (.cells #[v] T (0, 0))) : (W.setCell ⟨b, 0, none⟩ v').heap[b]? = some (.cells #[v'] T (0, 0)) := by
 have := block_set h 0 v'
 simpa using this
set_option maxRecDepth 100000 in
set_option maxHeartbeats 4000000 in
theorem where_any (rd : Bool) (f : FuncId) (eg : ∀ args w, (callFunc f args).run Tryz.prog w = .ok (.enter f args) w) (HCF : Hid (∀ (x : Tm) (W : World) (s : Value), x.rootOk → SlIn W 0 x.kids s → Calls Tryz.prog f #[.agg #[.int .i64 x.kind, .int .i64 x.num, s]] W (BoolPost W (!rd || decide (x.redex ≠ 0))))) (t : Tm) (w : World) (v : Value) (h : TmIn w 0 t v) :
  Calls Tryz.prog 59 #[v, .func (.func f) #[] #[]] w (LOwn w (placesP rd t)) := by
 obtain ⟨s, rfl, hs⟩ := h
 obtain ⟨a, c, rfl⟩ := hs.form
 have HS := tuck hs
 unfold placesP
 refine (callsIn_wide (n := 9)).1 ?_
 refine callsIn_of_wp_marks Tryz.func59 rfl trivial ?_ rfl
 simp only [Tryz.ntmps59, List.size_toArray, List.length_cons, List.length_nil, Nat.reduceAdd, Nat.reduceSub, Array.replicate_succ, Array.replicate_zero, List.push_toArray, List.append_toArray, List.nil_append, List.cons_append]
 by_cases hv : t.Valid
 ·rw [if_pos hv]
  have HVI : Hid (∀ (W : World) (h : SlIn W 0 t.kids (.slice a t.kids.length c)), Calls Tryz.prog 51 #[.agg #[.int .i64 t.kind, .int .i64 t.num, .slice a t.kids.length c]] W (BoolPost W true)) := tuck fun W h => by
   have h2 := validI_any t W _ ⟨_, rfl, h⟩
   rwa [tr_of hv] at h2
  have hf0 := heap_new (w.alloc (.cells #[.int .i64 t.kind, .int .i64 t.num, .slice a t.kids.length c] 34)) (.cells #[.func (.func f) #[] #[]] 61)
  rw [show (w.alloc (.cells #[.int .i64 t.kind, .int .i64 t.num, .slice a t.kids.length c] 34)).heap.size = w.heap.size + 1 by simp] at hf0
  have HF0 := tuck hf0
  clear hf0
  gi_wp2_with fail
  refine ⟨trivial, (callsIn_wide.2 (HVI.out _ (HS.out.below (below2 _ _ _)))).mono ?_⟩
  rintro e W1 ⟨rfl, hb1⟩
  have HB1 := tuck (bAfter (below2 w _ _) hb1)
  obtain ⟨z0, a0, a1, a2, af⟩ := (((VarAt.new w t.kind t.num (.slice a t.kids.length c)).below (below1 _ _)).below hb1).facts
  have HF1 := tuck ((hb1.block _ (block_of_cells HF0.out).1).trans HF0.out)
  clear hb1
  gi_wp2_with fail
  refine ⟨trivial, (callsIn_wide.2 (partsOf_any t _ _)).mono ?_⟩
  rintro e W3 ⟨hb3, b1, rfl, hb1l, hvb⟩
  obtain ⟨lb, hlb⟩ : ∃ lb, lb = W1.heap.size := ⟨_, rfl⟩
  have hl0 := heap_new W1 (.cells #[.slice none 0 0] 53)
  rw [← hlb] at hl0 ⊢
  have HL3 : Hid (W3.heap[lb]? = some _) := tuck ((hb3.block _ (block_of_cells hl0).1).trans hl0)
  have HB13 : Hid (Below W1.heap.size W1 W3) := tuck (bAfter (below1 _ _) hb3)
  have HF3 := tuck ((HB13.out.block _ (block_of_cells HF1.out).1).trans HF1.out)
  have HB3 : Hid (Below w.heap.size w W3) := tuck (bAfter HB1.out HB13.out)
  have HVB := tuck hvb
  have hlb3 : lb < W3.heap.size := (block_of_cells HL3.out).1
  have hlbw : w.heap.size + 1 < lb := by rw [hlb]; exact (block_of_cells HF1.out).1
  clear hb3 hvb hl0 hlb z0 a0 a1 a2 af HF1 HF0 hs
  gi_wp2_with fail
  refine wpIn_rangeFunc_cells rfl (by omega) (gf := 124) (lb := #[.pointer (some ⟨b1, 0, none⟩)]) rfl trivial (enters_of Tryz.func124 (by kernel_rfl) rfl) (N := t.size) (enc := fun g : Nat => #[.pointer (some ⟨g, 0, none⟩)]) (At := PartAt w t) (w0 := W3)
   (parts_in _ (by omega) w W3 HB3.out t hv _ b1 HVB.out HS.out) (Below.refl _ _) (fun _ => rfl)
   (fun k M A => Below w.heap.size w A ∧ A.heap[w.heap.size + 1]? = some (.cells #[.func (.func f) #[] #[]] 61 (0, 0)) ∧ ∃ v, A.heap[lb]? = some (.cells #[v] 53 (0, 0)) ∧ RowQ (fun i => M i ∨ i = lb) (lb + 1) (plcOf rd ((t.nodesFrom []).take k)) v A)
   ?hI ?hIo ?hAo ?h0
   (fun g a' _ => a' = { tmps := #[.agg #[.int .i64 t.kind, .int .i64 t.num, .slice a t.kids.length c], .func (.func f) #[] #[], .pointer (some ⟨w.heap.size, 0, none⟩), .pointer (some ⟨w.heap.size + 1, 0, none⟩), .slice none 0 0, .pointer (some ⟨lb, 0, none⟩), .pointer (some ⟨g, 0, none⟩), .agg #[.int .i64 t.kind, .int .i64 t.num, .slice a t.kids.length c], .bool true, .bool false, .agg #[.int .i64 t.kind, .int .i64 t.num, .slice a t.kids.length c], .func (.func 124) #[] #[.pointer (some ⟨b1, 0, none⟩)], .pointer (some ⟨g, 0, none⟩), undef, undef, undef, undef, undef, undef, undef, undef, undef, undef, undef, undef], defers := [] })
   (fun _ _ _ _ _ h _ _ => h) ?hassign ?hbody ?hdone
  case hI =>
   rintro k M M' A B ⟨h1, h2, v, h3, h4⟩ hM hz hs
   have hb : ∀ i, i < W3.heap.size + 2 → B.heap[i]? = A.heap[i]? := fun i hi => hs.block i (by omega) (fun m => by have := hM i m; omega)
   have hzw := HB3.out.size
   exact ⟨⟨hs.os.trans h1.os, hs.tape.trans h1.tape, hs.output.trans h1.output, Nat.le_trans h1.size hs.size, fun i hi => (hb i (by omega)).trans (h1.block i hi)⟩, (hb _ (by omega)).trans h2, v, (hb _ (by omega)).trans h3, h4.step (hs.more (by omega))⟩
  case hIo =>
   rintro k M A o o' ⟨h1, h2, v, h3, h4⟩ ho hc
   have hzw := HB3.out.size
   exact ⟨⟨h1.os, h1.tape, h1.output, by simpa [World.putObj] using h1.size, fun i hi => (World.putObj_heap_other (by omega)).trans (h1.block i hi)⟩, (World.putObj_heap_other (by omega)).trans h2, v, (World.putObj_heap_other (by omega)).trans h3, h4.other (putObj_grown _ _ _) (fun r e => by cases e; exact ⟨o, ho, hc⟩)⟩
  case hAo =>
   rintro k g M A o o' ⟨y, hy, hC⟩ hM ho hc
   exact ⟨y, hy, hC.other (putObj_grown _ _ _) (fun r e => by cases e; exact ⟨o, ho, hc⟩)⟩
  case h0 =>
   rintro A hb
   have hzw := HB3.out.size
   exact ⟨bAfter HB3.out hb, (hb.block _ (by omega)).trans HF3.out, _, (hb.block _ hlb3).trans HL3.out, by rw [List.take_zero]; exact RowQ.nil _ _ _⟩
  case hassign =>
   rintro l k g M W K hk hI hA hK hM
   gi_wp2
   exact hK _ _ (KeepsFrom.refl _ _) hM hI hA rfl
  case hbody =>
   rintro l k g M a' W hk hM hz ⟨hB, hF, v, hv1, hQ⟩ ⟨y, hy, hC⟩ rfl
   have hkN : k < (t.nodesFrom []).length := by rw [t.nodes_len []]; exact hk
   have hym : y ∈ t.nodesFrom [] := List.mem_of_getElem? hy
   have hyo := hv.nodes y hym
   have hys := hyo.short hv
   obtain ⟨p, x⟩ := y
   dsimp only at hC hys
   have hC2 := hC
   obtain ⟨hu, s, qs, hsx, hpas, hst⟩ := hC2
   obtain ⟨sa, sc, rfl⟩ := hsx.form
   obtain ⟨zg, g0, g1, g2, gf⟩ := cur_cells hst
   obtain ⟨zb, cb, fb⟩ := block_of_cells hF
   have b0 := cb 0
   simp only [List.size_toArray, List.length_cons, List.length_nil, Nat.lt_add_one, List.getElem?_toArray, List.getElem?_cons_zero] at b0
   have HCC : Hid (∀ W2, Below W.heap.size W W2 → Calls Tryz.prog f #[.agg #[.int .i64 x.kind, .int .i64 x.num, .slice sa x.kids.length sc]] W2 (BoolPost W2 (!rd || decide (x.redex ≠ 0)))) := tuck fun W2 h => HCF.out x W2 _ hyo.1.root ((hu.below h).sl hsx)
   have HB := tuck hB
   have HF := tuck hF
   have HV1 := tuck hv1
   have HQ := tuck hQ
   have HC := tuck hC
   have HY := tuck hy
   clear hB hF hv1 hQ hC hy hu hsx hpas hst cb hym hyo
   gi_wp2_with fail
   refine AnyTwo.beginN (fun w' : World => w' = W.drew) (fun _ => True) 5 (by kernel_rfl) (by kernel_rfl) ?_
   have hS1 : (fun w' : World => w' = W.drew) W.drew := rfl
   refine AnyTwo.take (i := 0) (oi := ⟨some 13, _, _, _, _, _⟩) (v := ?va0) rfl (by kernel_rfl) (by kernel_rfl) (by decide +kernel) (by kernel_rfl) (by rfl) (by kernel_rfl) (fun _ _ _ h => nomatch h.1) (Or.inl ⟨by rfl, ?ya0⟩) hS1 ?ra0
   case ya0 => (intro w hSw; (try dsimp only at hSw); subst hSw; go_simp; try (with_reducible rfl))
   try simp only [Act.put, List.setIfInBounds_toArray, List.set_cons_zero, List.set_cons_succ]
   refine AnyTwo.step (i := 1) (o := ⟨some 14, _, _, _, _, _⟩) (by kernel_rfl) rfl (fun K hK => ?_)
   go_simp
   have hS1' : (fun w' : World => w' = W.drew) _ := rfl
   refine hK.out _ _ (ph_one (by kernel_rfl) hS1') ?_
   clear hK K hS1
   have hS1 := hS1'
   clear hS1'
   try simp only [Act.put, List.setIfInBounds_toArray, List.set_cons_zero, List.set_cons_succ]
   refine AnyTwo.step (i := 2) (o := ⟨some 15, _, _, _, _, _⟩) (by kernel_rfl) rfl (fun K hK => ?_)
   go_simp
   have hS1' : (fun w' : World => w' = W.drew) _ := rfl
   refine hK.out _ _ (ph_one (by kernel_rfl) hS1') ?_
   clear hK K hS1
   have hS1 := hS1'
   clear hS1'
   try simp only [Act.put, List.setIfInBounds_toArray, List.set_cons_zero, List.set_cons_succ]
   refine AnyTwo.step (i := 3) (o := ⟨some 16, _, _, _, _, _⟩) (by kernel_rfl) rfl (fun K hK => ?_)
   go_simp
   have hS1' : (fun w' : World => w' = W.drew) _ := rfl
   refine hK.out _ _ (ph_one (by kernel_rfl) hS1') ?_
   clear hK K hS1
   have hS1 := hS1'
   clear hS1'
   try simp only [Act.put, List.setIfInBounds_toArray, List.set_cons_zero, List.set_cons_succ]
   refine AnyTwo.step (i := 4) (o := ⟨some 17, _, _, _, _, _⟩) (by kernel_rfl) rfl (fun K hK => ?_)
   go_simp
   have hS1' : (fun w' : World => w' = W.drew) _ := rfl
   refine hK.out _ _ (ph_one (by kernel_rfl) hS1') ?_
   clear hK K hS1
   have hS1 := hS1'
   clear hS1'
   try simp only [Act.put, List.setIfInBounds_toArray, List.set_cons_zero, List.set_cons_succ]
   refine AnyTwo.step (i := 5) (o := ⟨some 18, _, _, _, _, _⟩) (by kernel_rfl) rfl (fun K hK => ?_)
   go_simp
   refine (HCC.out W.drew (Below.refl _ _).drew).mono ?_
   rintro e W2 ⟨rfl, hb2⟩
   refine hK.out _ _ (ph_end (by kernel_rfl) trivial) ?_
   clear hK K
   try simp only [Act.put, List.setIfInBounds_toArray, List.set_cons_zero, List.set_cons_succ]
   refine AnyTwo.done (by kernel_rfl) ⟨rfl, ?_⟩ _
   have HB2 := tuck (bAfter (Below.refl W.heap.size W).drew hb2)
   clear hb2 hS1
   have hbd : ∃ b, b = (!rd || decide (x.redex ≠ 0)) := ⟨_, rfl⟩
   obtain ⟨b, hbd⟩ := hbd
   rw [← hbd]
   have HBD := tuck hbd
   have HTK : Hid (plcOf rd ((t.nodesFrom []).take (k + 1)) = plcOf rd ((t.nodesFrom []).take k) ++ if b = true then [(ixAt p, p.length)] else []) := tuck (by
    rw [List.take_add_one, HY.out, plcOf_app, hbd]
    congr 1
    unfold plcOf
    simp only [Option.toList_some, List.filter_cons, List.filter_nil]
    split <;> rfl)
   clear hbd HCC
   cases b with
   | false =>
    gi_wp2_with fail
    replace HTK : Hid (plcOf rd ((t.nodesFrom []).take (k + 1)) = plcOf rd ((t.nodesFrom []).take k)) := tuck (by have := HTK.out; simpa using this)
    refine ⟨keepsFrom_of_below HB2.out _, ⟨bAfter HB.out HB2.out, (HB2.out.block _ zb).trans HF.out, v, (HB2.out.block _ (by omega)).trans HV1.out, by rw [HTK.out]; exact HQ.out.below HB2.out⟩, ⟨_, HY.out, HC.out.other (grown_none HB2.out) (fun r e => nomatch e)⟩⟩
   | true =>
    replace HTK : Hid (plcOf rd ((t.nodesFrom []).take (k + 1)) = plcOf rd ((t.nodesFrom []).take k) ++ [(ixAt p, p.length)]) := tuck (by have := HTK.out; simpa using this)
    obtain ⟨va, vc, rfl⟩ := HQ.out.form
    have hLL : (plcOf rd ((t.nodesFrom []).take k)).length ≤ 900 := by
     unfold plcOf
     rw [List.length_map]
     refine Nat.le_trans (List.length_filter_le _ _) ?_
     rw [List.length_take]
     have h3 := (valid_bounds hv).1
     have h4 := t.size_eq
     omega
    obtain ⟨L, hL⟩ : ∃ L, L = plcOf rd ((t.nodesFrom []).take k) := ⟨_, rfl⟩
    rw [← hL] at HTK HQ HV1 hLL
    clear hL
    gi_wp2_with fail
    refine AnyTwo.beginN (fun w' : World => lb < w'.heap.size ∧ w'.cell? ⟨lb, 0, none⟩ = some (.slice va L.length vc)) (fun _ => True) 4 (by kernel_rfl) (by kernel_rfl) ?_
    have hlW : lb < W2.heap.size := Nat.lt_of_lt_of_le (Nat.lt_of_lt_of_le hlb3 (by omega)) HB2.out.size
    have hlc : W2.cell? ⟨lb, 0, none⟩ = some (.slice va L.length vc) := ((block_of_cells ((HB2.out.block _ (by omega)).trans HV1.out)).2.1 0).trans (by simp)
    have hS1 : (fun w' : World => lb < w'.heap.size ∧ w'.cell? ⟨lb, 0, none⟩ = some (.slice va L.length vc)) W2.drew := ⟨hlW, hlc⟩
    refine AnyTwo.take (i := 0) (oi := ⟨some 19, _, _, _, _, _⟩) (v := ?vb0) rfl (by kernel_rfl) (by kernel_rfl) (by decide +kernel) (by kernel_rfl) (by rfl) (by kernel_rfl) (fun _ _ _ h => nomatch h.1) (Or.inl ⟨by rfl, ?yb0⟩) hS1 ?rb0
    case yb0 => (intro w hSw; (try dsimp only at hSw); go_simp; try (with_reducible rfl))
    try simp only [Act.put, List.setIfInBounds_toArray, List.set_cons_zero, List.set_cons_succ]
    refine AnyTwo.step (i := 1) (o := ⟨some 20, _, _, _, _, _⟩) (by kernel_rfl) rfl (fun K hK => ?_)
    go_simp
    have hS1' : (fun w' : World => lb < w'.heap.size ∧ w'.cell? ⟨lb, 0, none⟩ = some (.slice va L.length vc)) _ := hS1
    refine hK.out _ _ (ph_one (by kernel_rfl) hS1') ?_
    clear hK K hS1
    have hS1 := hS1'
    clear hS1'
    try simp only [Act.put, List.setIfInBounds_toArray, List.set_cons_zero, List.set_cons_succ]
    refine AnyTwo.step (i := 2) (o := ⟨some 21, _, _, _, _, _⟩) (by kernel_rfl) rfl (fun K hK => ?_)
    go_simp
    have HCD := tuck (HC.out.other (grown_none (bAfter HB2.out (Below.refl W2.heap.size W2).drew)) (fun r e => nomatch e))
    refine (place_any (by omega) HCD.out).mono ?_
    rintro e W4 ⟨hb4, v4, rfl, hio⟩
    have hb24 : Below W2.heap.size W2 W4 := bAfter (Below.refl W2.heap.size W2).drew hb4
    obtain ⟨gp, hgp⟩ : ∃ gp, gp = W2.drew.heap.size := ⟨_, rfl⟩
    rw [← hgp] at hio
    have hgl : W2.heap.size ≤ gp := by rw [hgp]; exact Nat.le_refl _
    clear hgp
    obtain rfl := hio.form
    have hlt := HQ.out.rowP.lt
    have hz2 := HB2.out.size
    have hz4 := hb24.size
    have hMl := HC.out.lt
    have hgM : lb + 1 ≤ gp ∧ ¬ (M gp ∨ gp = lb) ∧ (Value.slice va L.length vc).ownBlock ≠ some gp := by
     refine ⟨by omega, ?_, fun h => by have := (hlt gp h).2; omega⟩
     rintro (h | h)
     ·have := (hMl gp h).2
      omega
     ·omega
    have hb04 : Below W.heap.size W W4 := bAfter HB2.out hb24
    obtain ⟨v5, W5, n1, n2, n3, n4⟩ := rowQ_append (M := fun i => M i ∨ i = lb) HQ.out hb04 (fun i hi => by rcases hi with hi | hi; (have := (hMl i hi).2; omega); omega) hio hgM (by omega) (by omega) (by omega)
    obtain ⟨vb, vd, rfl⟩ := n2.form
    have hb5 := below1 W4 (.cells #[.slice (some ⟨gp, 0, none⟩) p.length p.length] 28)
    have hnl : (Value.slice va L.length vc).ownBlock ≠ some lb := fun e => by have := (hlt lb e).1; omega
    have hl5 : W5.heap[lb]? = some (.cells #[.slice va L.length vc] 53 (0, 0)) := (n3.block lb (by have := hb5.size; omega) (fun e => hnl e.symm)).trans (((bAfter hb04 hb5).block lb (by omega)).trans HV1.out)
    obtain ⟨zl5, cl5, fl5⟩ := block_of_cells hl5
    have c5 : W5.cell? ⟨lb, 0, none⟩ = some (.slice va L.length vc) := (cl5 0).trans (by simp)
    have HN1 := tuck n1
    have HN2 := tuck n2
    have HN3 := tuck n3
    have HN4 := tuck n4
    have HL5 := tuck hl5
    have HB04 := tuck hb04
    have HB5 := tuck hb5
    have HLT := tuck hlt
    have HML := tuck hMl
    have HS4 : Hid ((fun w' : World => lb < w'.heap.size ∧ w'.cell? ⟨lb, 0, none⟩ = some (.slice va L.length vc)) W4) := tuck ⟨by omega, (hb24.cell (p := ⟨lb, 0, none⟩) hlW).trans hlc⟩
    have HS5 : Hid ((fun w' : World => lb < w'.heap.size ∧ w'.cell? ⟨lb, 0, none⟩ = some (.slice va L.length vc)) (W4.alloc (.cells #[.slice (some ⟨gp, 0, none⟩) p.length p.length] 28))) := tuck ⟨by have := hb5.size; omega, ((bAfter hb24 hb5).cell (p := ⟨lb, 0, none⟩) hlW).trans hlc⟩
    obtain ⟨pl, hpl⟩ : ∃ pl, pl = p.length := ⟨_, rfl⟩
    clear n1 n2 n3 n4 hl5 hb04 hb5 hlt hMl hgM cl5 hio hb4 hb24 hpl
    have hS1' : (fun w' : World => lb < w'.heap.size ∧ w'.cell? ⟨lb, 0, none⟩ = some (.slice va L.length vc)) _ := HS4.out
    refine hK.out _ _ (ph_one (by kernel_rfl) hS1') ?_
    clear hK K hS1
    have hS1 := hS1'
    clear hS1'
    try simp only [Act.put, List.setIfInBounds_toArray, List.set_cons_zero, List.set_cons_succ]
    refine AnyTwo.step (i := 3) (o := ⟨some 22, _, _, _, _, _⟩) (by kernel_rfl) rfl (fun K hK => ?_)
    go_simp
    have hS1' : (fun w' : World => lb < w'.heap.size ∧ w'.cell? ⟨lb, 0, none⟩ = some (.slice va L.length vc)) _ := HS5.out
    refine hK.out _ _ (ph_one (by kernel_rfl) hS1') ?_
    clear hK K hS1
    have hS1 := hS1'
    clear hS1'
    try simp only [Act.put, List.setIfInBounds_toArray, List.set_cons_zero, List.set_cons_succ]
    refine AnyTwo.step (i := 4) (o := ⟨some 23, _, _, _, _, _⟩) (by kernel_rfl) rfl (fun K hK => ?_)
    rw [if_pos (by kernel_rfl)]
    refine Go.Lib.wp_append_run _ _ _ _ _ rfl _ _ rfl rfl _ _ HN1.out ?_
    refine hK.out _ _ (ph_end (by kernel_rfl) trivial) ?_
    clear hK K
    try simp only [Act.put, List.setIfInBounds_toArray, List.set_cons_zero, List.set_cons_succ]
    refine AnyTwo.step (i := 5) (o := ⟨none, _, _, _, _, _⟩) (by kernel_rfl) rfl (fun K hK => ?_)
    go_simp
    refine hK.out _ _ (ph_end (by kernel_rfl) trivial) ?_
    clear hK K
    try simp only [Act.put, List.setIfInBounds_toArray, List.set_cons_zero, List.set_cons_succ]
    refine AnyTwo.done (by kernel_rfl) ⟨rfl, ?_⟩ _
    gi_wp2_with fail
    have hB4 : Below W.heap.size W (W4.alloc (.cells #[.slice (some ⟨gp, 0, none⟩) p.length p.length] 28)) := bAfter HB04.out HB5.out
    have hzz := hB4.size
    have hzw := HB3.out.size
    have hkeep : ∀ i, i < W.heap.size → i ≠ lb → (Value.slice va L.length vc).ownBlock ≠ some i → (W5.setCell ⟨lb, 0, none⟩ (.slice vb (L.length + 1) vd)).heap[i]? = W.heap[i]? := fun i hi h1 h2 => (Below.heap_setCell W5 ⟨lb, 0, none⟩ _ i h1).trans ((HN3.out.block i (by omega) (fun e => h2 e.symm)).trans (hB4.block i hi))
    have hbw : Below w.heap.size w (W5.setCell ⟨lb, 0, none⟩ (.slice vb (L.length + 1) vd)) := ((bAfter HB.out hB4).grown HN3.out (bAfter HB.out hB4).size (fun k hk => by have := (HLT.out k hk).1; omega)).setCell (p := ⟨lb, 0, none⟩) (by show w.heap.size ≤ lb; omega) _
    have hrq := HN2.out
    rw [List.length_append, List.length_singleton, ← HTK.out] at hrq
    refine ⟨⟨?keeps, fun i o hB1 ho hc => (hkeep i (Array.getElem?_eq_some_iff.1 ho).1 (by omega) (fun e => ?own)).trans ho⟩, ⟨hbw, (hkeep _ zb (by omega) (fun e => by have := (HLT.out _ e).1; omega)).trans HF.out, .slice vb (L.length + 1) vd, (Array.getElem?_eq_some_iff.1 (set_one HL5.out)).2, hrq.set (q := ⟨lb, 0, none⟩) (Nat.lt_succ_self _) _⟩, ⟨_, HY.out, HC.out.keep (View.of_below hbw (fun i hi => by have := hM i hi; omega)) (fun i hi => hkeep i (HML.out i hi).2 (by have := hM i hi; omega) (fun e => ?mm))⟩⟩
    case keeps =>
     have := HN3.out.size
     simp only [World.size_setCell]
     omega
    case own =>
     obtain ⟨vs, bs, -, -, ⟨-, hq2⟩, -⟩ := HQ.out
     rcases hq2 with ⟨e1, -⟩ | ⟨g', cap', cur, e1, -, hgg, -⟩
     ·rw [e1] at e
      cases e
     ·rw [e1] at e
      cases e
      rw [hgg] at ho
      cases ho
      cases hc
    case mm =>
     obtain ⟨vs, bs, -, -, -, h3, -⟩ := HQ.out
     exact (h3 i e).1 (Or.inl hi)
  case hdone =>
   rintro M W ⟨hB, hF, v, hv1, hQ⟩ hK
   rw [List.take_of_length_le (by rw [t.nodes_len []]; exact Nat.le_refl _)] at hQ
   obtain ⟨va, vc, rfl⟩ := hQ.form
   obtain ⟨zl, cl, fl⟩ := block_of_cells hv1
   have c0 := cl 0
   simp only [List.size_toArray, List.length_cons, List.length_nil, Nat.lt_add_one, List.getElem?_toArray, List.getElem?_cons_zero] at c0
   have hzw := HB3.out.size
   have HFIN : Hid (LOwn w (plcOf rd (t.nodesFrom [])) (.returned (.slice va (plcOf rd (t.nodesFrom [])).length vc)) (W.putObj W3.heap.size (.deferred none))) := tuck ⟨⟨hB.os, hB.tape, hB.output, by simpa [World.putObj] using hB.size, fun i hi => (World.putObj_heap_other (by omega)).trans (hB.block i hi)⟩, _, rfl, (hQ.other (putObj_grown _ _ _) (fun r e => by cases e; exact ⟨_, hK, rfl⟩)).weak (by omega)⟩
   generalize LOwn w (plcOf rd (t.nodesFrom [])) = post at *
   generalize (plcOf rd (t.nodesFrom [])).length = n at *
   clear hB hF hQ hv1
   gi_wp2
   refine ⟨by simp, .inl ⟨_, _, rfl, run_takeDeferred hK, ?_⟩⟩
   exact ⟨.slice va n vc, by simp [results, Tryz.results59, go_sem], HFIN.out⟩
 ·rw [if_neg hv]
  have HVI : Hid (∀ (W : World) (h : SlIn W 0 t.kids (.slice a t.kids.length c)), Calls Tryz.prog 51 #[.agg #[.int .i64 t.kind, .int .i64 t.num, .slice a t.kids.length c]] W (BoolPost W false)) := tuck fun W h => by
   have h2 := validI_any t W _ ⟨_, rfl, h⟩
   rwa [tr_not hv] at h2
  have HFIN : Hid (∀ W, Below w.heap.size w W → LOwn w [] (.returned (.slice none 0 0)) W) := tuck fun W hW => ⟨hW, _, rfl, RowQ.nil _ _ _⟩
  generalize LOwn w [] = post at *
  clear hv hs
  gi_wp2_with fail
  refine ⟨trivial, (callsIn_wide.2 (HVI.out _ (HS.out.below (below2 _ _ _)))).mono ?_⟩
  rintro e W1 ⟨rfl, hb1⟩
  have HB1 := tuck (bAfter (below2 w _ _) hb1)
  clear hb1
  gi_wp2_with fail
  exact ⟨.slice none 0 0, by simp [results, Tryz.results59, go_sem], HFIN.out _ HB1.out⟩
end Go.Proofs.YtpddjebdncaceaaGreat
