/-
  CurC.
-/
import Derived.Test.YtpddjebdncaceaaF03
import Derived.Test.YtpddjebdncaceaaF04
import Derived.Test.YtpddjebdncaceaaF07
import Derived.Test.YtpddjebdncaceaaF08
import Derived.Test.YtpddjebdncaceaaF09
import Derived.Test.YtpddjebdncaceaaF11
import Derived.Test.YtpddjebdncaceaaF12
import Derived.Test.YtpddjebdncaceaaF33
import Derived.Test.YtpddjebdncaceaaF34
import Derived.Deep.RegionHeld3
import Derived.IntWalk
import Derived.RowKit
namespace Go.Proofs.Ytpddjebdncaceaa
open Go.RowKit
set_option linter.unusedVariables false
def TmPost (g : Nat) (s : ByteArray) (fo : Value) (w : World) (o : Option (Tm × Nat × Nat)) (e : Ending) (w' : World) : Prop := Turn g w w' ∧ match o with
 | some x => ∃ v, e = .returned (.tuple #[v, .bool true]) ∧ Made w.heap.size x.1 v w' ∧ Cur g s x.2.1 x.2.2 fo w'
 | none => e = .returned (.tuple #[.agg #[.int .i64 0, .int .i64 0, .slice none 0 0], .bool false])
theorem TmPost.no {g : Nat} {s : ByteArray} {fo : Value} {w w' : World} {o : Option (Tm × Nat × Nat)} (h : o = none) (ht : Turn g w w') : TmPost g s fo w o (.returned (.tuple #[.agg #[.int .i64 0, .int .i64 0, .slice none 0 0], .bool false])) w' := by
 subst h; exact ⟨ht, rfl⟩
theorem TmPost.yes {g : Nat} {s : ByteArray} {fo : Value} {w w' : World} {o : Option (Tm × Nat × Nat)} {T : Tm} {a c : Nat} {v : Value} (h : o = some (T, a, c)) (ht : Turn g w w') (hm : Made w.heap.size T v w') (hc : Cur g s a c fo w') : TmPost g s fo w o (.returned (.tuple #[v, .bool true])) w' := by
 subst h; exact ⟨ht, v, rfl, hm, hc⟩
theorem ctEnds_cons (s : ByteArray) (f : Nat → Nat → Option (Tm × Nat × Nat)) (e : Nat) (es : List Nat) (a c : Nat) : ctEnds s f (e :: es) a c = match f a c with
  | none => none
  | some x => if endAt s x.2.1 e = true then (ctEnds s f es (if endAt s x.2.1 e = true ∧ e ≠ 0 then x.2.1 + 1 else x.2.1) x.2.2).map fun y => (x.1 :: y.1, y.2) else none := by
 rw [ctEnds]
 cases f a c with
 | none => rfl
 | some x =>
  dsimp only
  unfold endAt
  by_cases h0 : e = 0
  ·subst h0; simp
  ·rw [if_neg h0]
   by_cases hb : byteAt s x.2.1 = e
   ·simp [hb, h0]
   ·simp [hb, h0]
theorem Turn.size {g : Nat} {a b : World} (h : Turn g a b) : a.heap.size ≤ b.heap.size := h.1.size
theorem Turn.block {g i : Nat} {a b : World} (h : Turn g a b) (hi : i < a.heap.size) (hn : i ≠ g) : b.heap[i]? = a.heap[i]? := h.1.block i hi (fun e => hn (by injection e))
theorem Turn.set3 {g : Nat} {a b : World} (h : Turn g a b) {r : Nat} (hr : a.heap.size ≤ r) (hg : g < a.heap.size) (i j k : Nat) (x y z : Value) : Turn g a (((b.setCell ⟨r, i, none⟩ x).setCell ⟨r, j, none⟩ y).setCell ⟨r, k, none⟩ z) :=
 ((h.far (p := ⟨r, i, none⟩) hr hg _).far (p := ⟨r, j, none⟩) hr hg _).far (p := ⟨r, k, none⟩) hr hg _
theorem Cur.far3 {g : Nat} {s : ByteArray} {a c : Nat} {fo : Value} {w : World} (h : Cur g s a c fo w) {r : Nat} (hr : r ≠ g) (i j k : Nat) (x y z : Value) : Cur g s a c fo (((w.setCell ⟨r, i, none⟩ x).setCell ⟨r, j, none⟩ y).setCell ⟨r, k, none⟩ z) :=
 ((h.far (p := ⟨r, i, none⟩) hr _).far (p := ⟨r, j, none⟩) hr _).far (p := ⟨r, k, none⟩) hr _
def padT (L : List Tm) (m : Nat) : List Tm := L ++ List.replicate (m - L.length) (.mk 0 0 [])
theorem padT_length {L : List Tm} {m : Nat} (h : L.length ≤ m) : (padT L m).length = m := by unfold padT; rw [List.length_append, List.length_replicate]; omega
theorem padT_take (L : List Tm) (m : Nat) : (padT L m).take L.length = L := by unfold padT; rw [List.take_left']; rfl
structure FormOk (fo p : Value) (F : FuncId) (T : TypeId) : Prop where
 fo : fo = .iface T p
 meth : ∀ (n : Nat) (w : World), (method (n + 1) T p "loop.example/depkernel/impl.term").run Try.prog w = .ok (F, p) w
 call : ∀ (args : Array Value) (w : World), (callFunc F args).run Try.prog w = .ok (.enter F args) w
set_option maxRecDepth 100000 in
set_option maxHeartbeats 4000000 in
theorem rdNode_any (g : Nat) (s : ByteArray) (hs : s.size ≤ 1152921504606846976) (fo p : Value) (F : FuncId) (T : TypeId) (hfm : FormOk fo p F T) (R : World → Prop) (hR : ∀ w w' : World, g < w.heap.size → Turn g w w' → R w → R w')
  (f : Nat → Nat → Option (Tm × Nat × Nat)) (D : Nat) (hD : D ≤ 1000) (hf : ∀ a c x, a ≤ s.size → c ≤ 400 → f a c = some x → x.2.1 ≤ s.size ∧ x.2.2 ≤ 400)
  (HT : ∀ (a c : Nat) (w : World), R w → Cur g s a c fo w → a ≤ s.size → c ≤ 400 → Calls Try.prog F #[p, .int .i64 ((D + 1 : Nat) : Int)] w (TmPost g s fo w (f a c)))
  (k : Int) (es : List Nat) (hm : es.length ≤ 4) (hm1 : 1 ≤ es.length) (eb ecap : Nat) (a c : Nat) (w : World) (hw : R w) (hcu : Cur g s a c fo w) (ha : a ≤ s.size) (hc : c ≤ 400)
  (hends : ∀ i (h : i < es.length), ∃ q, w.cell? ⟨eb, i, none⟩ = some (.string q) ∧ EndIs q es[i]) (heb : eb ≠ g) :
  Calls Try.prog 69 #[.pointer (some ⟨g, 0, none⟩), .int .i64 k, .int .i64 D, .slice (some ⟨eb, 0, none⟩) es.length ecap] w (TmPost g s fo w (ctNode s f k es a c)) := by
 obtain ⟨hfo, hmeth, hcall⟩ := hfm
 subst hfo
 have hg := hcu.facts.1
 have hebl : eb < w.heap.size := by obtain ⟨q, h1, _⟩ := hends 0 (by omega); exact World.block_lt_of_cell? w _ h1
 have HNO : Hid (∀ w', ctEnds s f es a c = none → Turn g w w' → TmPost g s (.iface T p) w (ctNode s f k es a c) (.returned (.tuple #[.agg #[.int .i64 0, .int .i64 0, .slice none 0 0], .bool false])) w') := tuck fun w' h ht => TmPost.no (by unfold ctNode; rw [h]; rfl) ht
 have HYES : Hid (∀ w' L a' c' v, ctEnds s f es a c = some (L, a', c') → Turn g w w' → Made w.heap.size (Tm.mk k 0 L) v w' → Cur g s a' c' (.iface T p) w' → TmPost g s (.iface T p) w (ctNode s f k es a c) (.returned (.tuple #[v, .bool true])) w') := tuck fun w' L a' c' v h ht hm hc => TmPost.yes (by unfold ctNode; rw [h]; rfl) ht hm hc
 generalize TmPost g s (.iface T p) w (ctNode s f k es a c) = post at *
 obtain ⟨i0, hi, hz0, hz1', hz2⟩ := info_parts info_term'
 have hmk : ∀ W : World, (Instr.makeSlice 22 (.int .i64 (es.length : Int)) (.int .i64 (es.length : Int))).run Try.prog W = .ok (.slice (some ⟨W.heap.size, 0, none⟩) es.length es.length) (W.alloc (.cells (madeCells #[.int .i64 0, .int .i64 0, .slice none 0 0] (es.length * 3)) 24)) := fun W => by
  have h := run_make (P := Try.prog) W 22 24 i0 _ Try.underlying22 hi hz0 .i64 .i64 (es.length : Int) (es.length : Int) (by omega) (Int.le_refl _) (by rw [hz2]; omega) (by omega)
  rw [hz1'] at h
  simpa [Value.cells] using h
 clear hi hz0 hz1' hz2
 have HB0 := tuck (below2 w (.cells #[.int .i64 0, .int .i64 0, .slice none 0 0] 24) (.cells (madeCells #[.int .i64 0, .int .i64 0, .slice none 0 0] (es.length * 3)) 24))
 have HV0 := tuck ((VarAt.new w 0 0 (.slice none 0 0)).below (below1 _ (.cells (madeCells #[.int .i64 0, .int .i64 0, .slice none 0 0] (es.length * 3)) 24)))
 have HR0 : Hid (((w.alloc (.cells #[.int .i64 0, .int .i64 0, .slice none 0 0] 24)).alloc (.cells (madeCells #[.int .i64 0, .int .i64 0, .slice none 0 0] (es.length * 3)) 24)).heap[w.heap.size + 1]? = some (.cells (madeCells #[.int .i64 0, .int .i64 0, .slice none 0 0] (es.length * 3)) 24)) := tuck (by
  have := heap_new (w.alloc (.cells #[.int .i64 0, .int .i64 0, .slice none 0 0] 24)) (.cells (madeCells #[.int .i64 0, .int .i64 0, .slice none 0 0] (es.length * 3)) 24)
  rwa [show (w.alloc (.cells #[.int .i64 0, .int .i64 0, .slice none 0 0] 24)).heap.size = w.heap.size + 1 by simp] at this)
 have HE := tuck hends
 have HCU := tuck hcu
 have HW := tuck hw
 have HRR := tuck hR
 have HTT := tuck HT
 have HF := tuck hf
 have HMT := tuck hmeth
 have HCL := tuck hcall
 clear hends hcu hw hR HT hf hmeth hcall
 go_enter Try.func69, Try.ntmps69
 go_wp2_with fail
 generalize (w.alloc (.cells #[.int .i64 0, .int .i64 0, .slice none 0 0] 24)).alloc (.cells (madeCells #[.int .i64 0, .int .i64 0, .slice none 0 0] (es.length * 3)) 24) = W0 at *
 clear hmk
 go_loopw [20] (fun i wr => ∃ (q : Nat) (L : List Tm) (a' c' : Nat) (F' : List Nat), i = .int .i64 q ∧ L.length = q ∧ q ≤ es.length ∧ ctEnds s f es a c = (ctEnds s f (es.drop q) a' c').map (fun y => (L ++ y.1, y.2)) ∧ Cur g s a' c' (.iface T p) wr ∧ a' ≤ s.size ∧ c' ≤ 400 ∧
   Turn g w wr ∧ VarAt w.heap.size 0 0 (.slice none 0 0) wr ∧ (∃ cs : Array Value, wr.heap[w.heap.size + 1]? = some (.cells cs 24 (0, 0)) ∧ cs.size = es.length * 3) ∧ RowOwn wr L (w.heap.size + 1) 0 F' ∧ F'.Nodup ∧ ∀ x ∈ F', w.heap.size + 1 < x ∧ x < wr.heap.size) (fun i _ => es.length - (intOf i).toNat)
 case atStart => exact ⟨0, [], a, c, [], rfl, rfl, Nat.zero_le _, by rw [List.drop_zero]; simp, HCU.out.below HB0.out, ha, hc, Turn.of_below HB0.out, HV0.out, ⟨_, HR0.out, size_madeCells _ _⟩, by rw [RowOwn], List.nodup_nil, fun x h => by cases h⟩
 case round =>
  obtain ⟨q, L, a', c', F', rfl, hL, hq, hce, hcu, ha', hc', htu, hva, ⟨cs, hcs, hcz⟩, hro, hnd, hF'⟩ := hrel
  have HCE := tuck hce
  have HCUR := tuck hcu
  have HTU := tuck htu
  have HVA := tuck hva
  have HCS := tuck hcs
  have HRO := tuck hro
  have HND := tuck hnd
  have HFF := tuck hF'
  have HL := tuck hL
  have HCZ := tuck hcz
  clear hce htu hva hcs hro hnd hF' hL hcz
  obtain ⟨hg1, c0, c1, c2, c3, cf⟩ := hcu.facts
  clear hcu c0 c1 c2 cf
  by_cases hlt : q < es.length
  ·have hlti : ((q : Int) < (es.length : Int)) := by omega
   have hqi : (0 : Int) ≤ (q : Int) := by omega
   obtain ⟨pe, e0, hpe⟩ := HE.out q hlt
   have e1 : wr.cell? ⟨eb, q, none⟩ = some (.string pe) := (HTU.out.1.cell (p := ⟨eb, q, none⟩) hebl heb).trans e0
   clear e0
   have HPE := tuck hpe
   have HDR : Hid (es.drop q = es[q] :: es.drop (q + 1)) := tuck (List.drop_eq_getElem_cons hlt)
   generalize es[q] = en at *
   clear hpe
   have HTC := tuck (HTT.out a' c' wr (HRR.out w wr hg HTU.out HW.out) HCUR.out ha' hc')
   rw [show ((D + 1 : Nat) : Int) = (D : Int) + 1 by omega] at HTC
   have hmeth := HMT.out
   have hcall := HCL.out
   go_wp2_with fail
   with_reducible refine HTC.out.mono ?_
   clear hmeth hcall
   rintro e w2 ⟨ht2, hm2⟩
   have HV2 := tuck (HVA.out.only ht2.1 (by omega))
   have HTU2 := tuck (HTU.out.trans ht2)
   have HT2 := tuck ht2
   have hzr := HTU.out.size
   have hzk : w.heap.size + 1 < wr.heap.size := (block_of_cells HCS.out).1
   have HCS2 := tuck ((ht2.block hzk (by omega)).trans HCS.out)
   have HRO2 := tuck (HRO.out.keep (fun i _ => ht2.1.cell (p := ⟨w.heap.size + 1, 0 + i, none⟩) hzk (by show w.heap.size + 1 ≠ g; omega)) (fun y hy => SameAt.of_block (ht2.block (HFF.out y hy).2 (by have := (HFF.out y hy).1; omega))))
   have HFF2 : Hid (∀ x ∈ F', w.heap.size + 1 < x ∧ x < w2.heap.size) := tuck fun x hx => ⟨(HFF.out x hx).1, Nat.lt_of_lt_of_le (HFF.out x hx).2 ht2.size⟩
   have HFO : Hid (∀ x ∈ F', x < wr.heap.size) := tuck fun x hx => (HFF.out x hx).2
   clear ht2 e1 c3 hg1
   cases hfx : f a' c' with
   | none =>
    rw [hfx] at hm2
    obtain rfl := hm2
    have HNN := tuck (fun w' => HNO.out w' (by rw [HCE.out, HDR.out, ctEnds, hfx]; rfl))
    clear hfx
    obtain ⟨zv, v0, v1, v2, vf⟩ := (HV2.out.below (below1 w2 (.cells #[.int .i64 0, .int .i64 0, .slice none 0 0] 24))).facts
    go_wp2_with fail
    refine bodyPost_ret (v := .tuple #[.agg #[.int .i64 0, .int .i64 0, .slice none 0 0], .bool false]) (by simp [results, Try.results69, go_sem, *]) rfl (HNN.out _ ?_)
    exact (HTU2.out.alloc _).set3 (Nat.le_refl _) hg _ _ _ _ _ _
   | some x =>
    rw [hfx] at hm2
    obtain ⟨vx, rfl, ⟨sx, Fx, rfl, hox, hnx, hFx⟩, hcx⟩ := hm2
    obtain ⟨sa, sc, rfl⟩ := hox.form
    obtain ⟨hx1, hx2⟩ := HF.out a' c' x ha' hc' hfx
    have HCE2 : Hid (ctEnds s f es a c = if endAt s x.2.1 en = true then (ctEnds s f (es.drop (q + 1)) (if endAt s x.2.1 en = true ∧ en ≠ 0 then x.2.1 + 1 else x.2.1) x.2.2).map (fun y => (L ++ [x.1] ++ y.1, y.2)) else none) := tuck (by
     rw [HCE.out, HDR.out, ctEnds_cons, hfx]
     dsimp only
     split
     ·rw [Option.map_map]
      congr 1
      funext y
      simp
     ·rfl)
    have HOX := tuck hox
    have HNX := tuck hnx
    have HFX := tuck hFx
    have hbx := below1 w2 (.cells #[.int .i64 x.1.kind, .int .i64 x.1.num, .slice sa x.1.kids.length sc] 24)
    have HVX := tuck (VarAt.new w2 x.1.kind x.1.num (.slice sa x.1.kids.length sc))
    have HTK := tuck (rd_take_any g s pe x.2.1 x.2.2 en (.iface T p) (w2.alloc (.cells #[.int .i64 x.1.kind, .int .i64 x.1.num, .slice sa x.1.kids.length sc] 24)) (hcx.below hbx) hx1 hs HPE.out)
    have HV3 := tuck (HV2.out.below hbx)
    have HTU3 := tuck (HTU2.out.below hbx)
    have HT3 := tuck (HT2.out.below hbx)
    have HCS3 := tuck ((hbx.block (w.heap.size + 1) (by have := HT2.out.size; omega)).trans HCS2.out)
    have HRO3 := tuck (HRO2.out.keep (fun i _ => hbx.cell (p := ⟨w.heap.size + 1, 0 + i, none⟩) (by show w.heap.size + 1 < _; have := HT2.out.size; omega)) (fun y hy => SameAt.of_block (hbx.block y (HFF2.out y hy).2)))
    have HOX3 := tuck (hox.below (fun y hy => (hFx y hy).2) hbx)
    have hz23 : w2.heap.size < (w2.alloc (.cells #[.int .i64 x.1.kind, .int .i64 x.1.num, .slice sa x.1.kids.length sc] 24)).heap.size := by simp
    have HZ23 := tuck hz23
    clear hox hnx hFx hcx hbx hz23 HCE HCS2 HRO2 HOX
    go_wp2_with fail
    generalize w2.alloc (.cells #[.int .i64 x.1.kind, .int .i64 x.1.num, .slice sa x.1.kids.length sc] 24) = W3 at *
    have hzw2 : w.heap.size + 1 < w2.heap.size := by have := HT2.out.size; omega
    have hg2 : g < w2.heap.size := by omega
    obtain ⟨a2, hA2⟩ : ∃ a2, a2 = (if endAt s x.2.1 en = true ∧ en ≠ 0 then x.2.1 + 1 else x.2.1) := ⟨_, rfl⟩
    rw [← hA2] at HTK HCE2
    cases hen : endAt s x.2.1 en with
    | false =>
     rw [hen] at HTK HCE2
     have HNN := tuck (fun w' => HNO.out w' (by rw [HCE2.out]; rfl))
     clear hen hfx HCE2 hA2
     refine HTK.out.mono ?_
     rintro e w4 ⟨rfl, ht4, hc4⟩
     have HV4 := tuck (HV3.out.only ht4.1 (by omega))
     have HTU4 := tuck (HTU3.out.trans ht4)
     clear ht4 hc4
     obtain ⟨zv, v0, v1, v2, vf⟩ := HV4.out.facts
     go_wp2_with fail
     refine bodyPost_ret (v := .tuple #[.agg #[.int .i64 0, .int .i64 0, .slice none 0 0], .bool false]) (by simp [results, Try.results69, go_sem, *]) rfl (HNN.out _ ?_)
     exact HTU4.out.set3 (Nat.le_refl _) hg _ _ _ _ _ _
    | true =>
     rw [hen] at HTK HCE2
     have HA2 : Hid (a2 ≤ s.size) := tuck (by
      rw [hA2]
      split
      ·rename_i hh
       have := byte_lt (show byteAt s x.2.1 = en by simpa [endAt, hh.2] using hen) hh.2
       omega
      ·exact hx1)
     have HCE3 : Hid (ctEnds s f es a c = (ctEnds s f (es.drop (q + 1)) a2 x.2.2).map (fun y => (L ++ [x.1] ++ y.1, y.2))) := tuck (by rw [HCE2.out, if_pos rfl])
     clear hen hfx hA2 HCE2
     refine HTK.out.mono ?_
     rintro e w4 ⟨rfl, ht4, hc4⟩
     have HV4 := tuck (HV3.out.only ht4.1 (by omega))
     have HX4 := tuck (HVX.out.only ht4.1 (by omega))
     have HTU4 := tuck (HTU3.out.trans ht4)
     have HT4 := tuck ht4
     have HC4 := tuck hc4
     have hzw3 : w.heap.size + 1 < W3.heap.size := by have := HZ23.out; omega
     have HCS4 := tuck ((ht4.block hzw3 (by omega)).trans HCS3.out)
     have HRO4 := tuck (HRO3.out.keep (fun i _ => ht4.1.cell (p := ⟨w.heap.size + 1, 0 + i, none⟩) hzw3 (by show w.heap.size + 1 ≠ g; omega)) (fun y hy => SameAt.of_block (ht4.block (Nat.lt_trans (HFF2.out y hy).2 HZ23.out) (by have := (HFF2.out y hy).1; omega))))
     have HOX4 := tuck (HOX3.out.keep (fun y hy => SameAt.of_block (ht4.block (Nat.lt_trans (HFX.out y hy).2 HZ23.out) (by have := (HFX.out y hy).1; omega))))
     clear ht4 hc4 HCS3 HRO3 HOX3
     obtain ⟨zx, k0, k1, k2, kf⟩ := HX4.out.facts
     have hcz := HCZ.out
     have c30 := ((block_of_cells HCS4.out).2.1 (q * 3)).trans (Array.getElem?_eq_getElem (by omega))
     have c31 := ((block_of_cells HCS4.out).2.1 (q * 3 + 1)).trans (Array.getElem?_eq_getElem (by omega))
     have c32 := ((block_of_cells HCS4.out).2.1 (q * 3 + 2)).trans (Array.getElem?_eq_getElem (by omega))
     have c3f := (block_of_cells HCS4.out).2.2
     go_wp2_with fail
     go_roundw
     case rel =>
      have hcz := HCZ.out
      have hLq := HL.out
      have hRF : w.heap.size + 1 ∉ F' := fun h => by have := (HFF2.out _ h).1; omega
      have hRF2 : w.heap.size + 1 ∉ Fx := fun h => by have := (HFX.out _ h).1; omega
      have hp := row_put (l := padT L es.length) (q := q) HCS4.out (by rw [padT_length (by omega)]; exact hlt) (by rw [padT_length (by omega)]; exact hcz) (by rw [← hLq, padT_take]; exact HRO4.out) HOX4.out hRF hRF2
      rw [padT_length (by omega)] at hp
      obtain ⟨hp1, hp2⟩ := hp
      rw [← hLq, padT_take, hLq] at hp2
      refine ⟨q + 1, L ++ [x.1], a2, x.2.2, F' ++ Fx, by go_num, by simp [hLq], by omega, HCE3.out, HC4.out.far3 (by omega) _ _ _ _ _ _, HA2.out, hx2, HTU4.out.set3 (by omega) hg _ _ _ _ _ _, HV4.out.far3 (by omega) _ _ _ _ _ _, hp1, hp2, ?_, fun y hy => ?_⟩
      ·refine List.nodup_append.2 ⟨HND.out, HNX.out, fun a ha b hb e => ?_⟩
       have := HFO.out a ha
       have := (HFX.out b hb).1
       omega
      ·rw [size_set3]
       have hz := HT4.out.size
       have hz2 := HZ23.out
       rcases List.mem_append.1 hy with hy | hy
       ·have := HFF2.out y hy
        omega
       ·have := HFX.out y hy
        omega
     case measure => simp [intOf]; omega
  ·have hge2 : ¬ ((q : Int) < (es.length : Int)) := by omega
   have e : q = es.length := by omega
   subst e
   have hLq := HL.out
   have hm4 : L.length ≤ 4 := by omega
   have HM4 := tuck hm4
   clear hm4
   have HCE2 : Hid (ctEnds s f es a c = some (L, a', c')) := tuck (by rw [HCE.out, List.drop_length, ctEnds]; simp)
   obtain ⟨zv, v0, v1, v2, vf⟩ := HVA.out.facts
   rw [← hLq] at *
   clear hLq c3
   go_wp2_with fail
   have hso : SlOwn wr L (.slice (some ⟨w.heap.size + 1, 0, none⟩) L.length L.length) ((w.heap.size + 1) :: F') :=
    ⟨some ⟨w.heap.size + 1, 0, none⟩, L.length, w.heap.size + 1, F', rfl, by have := HM4.out; unfold maxLen; omega, Or.inr ⟨rfl, rfl, (block_of_cells HCS.out).2.2⟩, fun _ => HRO.out⟩
   refine bodyPost_ret (v := .tuple #[.agg #[.int .i64 k, .int .i64 0, .slice (some ⟨w.heap.size + 1, 0, none⟩) L.length L.length], .bool true]) (by simp [results, Try.results69, go_sem, *]) rfl (HYES.out _ L a' c' _ HCE2.out ?_ ⟨_, (w.heap.size + 1) :: F', rfl, ?_, List.nodup_cons.2 ⟨fun h => by have := (HFF.out _ h).1; omega, HND.out⟩, fun y hy => ?_⟩ ?_)
   ·exact HTU.out.set3 (Nat.le_refl _) hg _ _ _ _ _ _
   ·refine hso.set3 (fun h => ?_) _ _ _ _ _ _
    rcases List.mem_cons.1 h with h | h
    ·omega
    ·have := (HFF.out _ h).1; omega
   ·rw [size_set3]
    have := (block_of_cells HCS.out).1
    rcases List.mem_cons.1 hy with rfl | hy
    ·omega
    ·have := HFF.out y hy
     omega
   ·exact HCUR.out.far3 (by omega) _ _ _ _ _ _
end Go.Proofs.Ytpddjebdncaceaa
