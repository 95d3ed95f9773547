/-
  Find.
-/
import Derived.Test.YtlbikgnanabjgaaGreatQ18
import Derived.Test.YtlbikgnanabjgaaGreatQ23
import Derived.Test.YtlbikgnanabjgaaGreatQ24
import Derived.Test.YtlbikgnanabjgaaGreatQ30
namespace Go.Proofs.YtlbikgnanabjgaaGreat
open Go.RowKit
theorem Step.setNew {M M' : Nat → Prop} {a b : World} (h : Step M a b M') {p : Addr} (hp : a.heap.size ≤ p.block) (u : Value) : Step M a (b.setCell p u) M' :=
 ⟨h.os, h.tape, h.output, by have := h.size; simpa [World.setCell] using this, fun i hi hn => (Below.heap_setCell b p u i (by omega)).trans (h.block i hi hn), h.grow, fun i hi => by simpa [World.setCell] using h.lt i hi⟩
theorem Step.setNew3 {M M' : Nat → Prop} {a b : World} (h : Step M a b M') {g : Nat} (hp : a.heap.size ≤ g) (i j k : Nat) (x y z : Value) : Step M a (((b.setCell ⟨g, i, none⟩ x).setCell ⟨g, j, none⟩ y).setCell ⟨g, k, none⟩ z) M' :=
 ((h.setNew (p := ⟨g, i, none⟩) hp _).setNew (p := ⟨g, j, none⟩) hp _).setNew (p := ⟨g, k, none⟩) hp _
theorem StkAt.far {g o : Nat} {T : TypeId} {cs : Array Value} {ps : List (Tm × Value × Nat)} {M : Nat → Prop} {w : World} (h : StkAt g o T cs ps M w) {p : Addr} (hp : ¬ M p.block) (u : Value) : StkAt g o T cs ps M (w.setCell p u) := by
 obtain ⟨h1, v, h2, ho, h3, rfl⟩ := h
 refine ⟨h1, v, (Below.heap_setCell w p u g (fun e => hp (Or.inl e.symm))).trans h2, ho, ⟨h3.1, h3.2.imp id ?_⟩, rfl⟩
 rintro ⟨g', cap', cur, rfl, hb, hgc, rest⟩
 exact ⟨g', cap', cur, rfl, hb, (Below.heap_setCell w p u g' (fun e => hp (Or.inr (by rw [← e]; rfl)))).trans hgc, rest⟩
theorem StkAt.far3 {g' o : Nat} {T : TypeId} {cs : Array Value} {ps : List (Tm × Value × Nat)} {M : Nat → Prop} {w : World} (h : StkAt g' o T cs ps M w) {g : Nat} (hp : ¬ M g) (i j k : Nat) (x y z : Value) : StkAt g' o T cs ps M (((w.setCell ⟨g, i, none⟩ x).setCell ⟨g, j, none⟩ y).setCell ⟨g, k, none⟩ z) :=
 ((h.far (p := ⟨g, i, none⟩) hp _).far (p := ⟨g, j, none⟩) hp _).far (p := ⟨g, k, none⟩) hp _
set_option maxRecDepth 100000 in
theorem searches_any (rl mo : Bool) (k : Int) (i : Nat) (w : World) : Calls Tryz.prog 55 #[.agg #[.bool rl, .bool mo], .int .i64 k, .int .i64 i] w
  fun e w' => e = .returned (.bool (!decide (mo = true ∧ mainIx k ≠ (i : Int)))) ∧ Below w.heap.size w w' := by
 obtain ⟨post, hpost⟩ : ∃ post : Ending → World → Prop, post = fun e w' => e = .returned (.bool (!decide (mo = true ∧ mainIx k ≠ (i : Int)))) ∧ Below w.heap.size w w' := ⟨_, rfl⟩
 rw [← hpost]
 have HP : Hid (∀ (b : Bool) w', b = (!decide (mo = true ∧ mainIx k ≠ (i : Int))) → Below w.heap.size w w' → post (.returned (.bool b)) w') := tuck fun b w' h1 h2 => by rw [hpost, h1]; exact ⟨rfl, h2⟩
 have HB := tuck (below1 w (.cells #[.bool rl, .bool mo] 43))
 clear hpost
 cases mo with
 | false =>
  have HQ := tuck (HP.out true _ (by simp) HB.out)
  clear HP
  go_enter Tryz.func55, Tryz.ntmps55
  go_wp2_with fail
  exact HQ.out
 | true =>
  by_cases hm : mainIx k = -1
  ·have HQ : Hid (∀ w', Below w.heap.size w w' → post (.returned (.bool false)) w') := tuck fun w' h => HP.out false w' (by rw [hm]; simp) h
   have hmain := main_any k
   rw [hm] at hmain
   have HM := tuck hmain
   clear HP hmain
   go_enter Tryz.func55, Tryz.ntmps55
   go_wp2_with fail
   refine (HM.out _).mono ?_
   rintro e w1 ⟨rfl, rfl⟩
   simp only [decide_true, Bool.not_true]
   go_wp2_with fail
   exact HQ.out _ HB.out
  ·have HQ : Hid (∀ w', Below w.heap.size w w' → post (.returned (.bool (decide ((i : Int) = mainIx k)))) w') := tuck fun w' h => HP.out _ w' (by
    by_cases e : mainIx k = (i : Int)
    ·simp [e]
    ·have e' : ¬ (i : Int) = mainIx k := fun h => e h.symm
     simp [e, e']) h
   have hmain := main_any k
   rw [if_neg hm, decide_eq_false hm] at hmain
   have HM := tuck hmain
   clear HP hmain
   generalize mainIx k = m at *
   go_enter Tryz.func55, Tryz.ntmps55
   go_wp2_with fail
   refine (HM.out _).mono ?_
   rintro e w1 ⟨rfl, rfl⟩
   simp only [Bool.not_false]
   go_wp2_with fail
   exact HQ.out _ HB.out
def Passed (u : World) : List (Tm × Nat) → List (Tm × Value × Nat) → Prop
 | [], [] => True
 | (t, i) :: p, (t', s, i') :: q => t' = t ∧ i' = i ∧ SlIn u 0 t.kids s ∧ Passed u p q
 | _, _ => False
def FindPost (u : World) (g so : Nat) (sT : TypeId) (scs : Array Value) (ps : List (Tm × Value × Nat)) (M : Nat → Prop) (w : World) (t : Tm) (s : Value) : Option (List (Tm × Nat) × Tm) → Ending → World → Prop
 | none, e, w' => ∃ M', Step M w w' M' ∧ e = .returned (.tuple #[.agg #[.int .i64 t.kind, .int .i64 t.num, s], .bool false]) ∧ StkAt g so sT scs ps M' w'
 | some (p, x), e, w' => ∃ M', Step M w w' M' ∧ ∃ sx qs, e = .returned (.tuple #[.agg #[.int .i64 x.kind, .int .i64 x.num, sx], .bool true]) ∧ SlIn u 0 x.kids sx ∧ StkAt g so sT scs (ps ++ qs) M' w' ∧ Passed u p qs
def FindBox (b : Nat) (rl mo : Bool) (k n : Int) (s : Value) (w : World) : Prop := w.heap[b]? = some (.cells #[.bool rl, .bool mo] 43 (0, 0)) ∧ VarAt (b + 1) k n s w ∧ VarAt (b + 1 + 1) 0 0 (.slice none 0 0) w
theorem FindBox.step {b : Nat} {rl mo : Bool} {k n : Int} {s : Value} {w w' : World} {M M' : Nat → Prop} (h : FindBox b rl mo k n s w) (hs : Step M w w' M') (hn : ∀ i, b ≤ i → i ≤ b + 2 → ¬ M i) : FindBox b rl mo k n s w' :=
 ⟨(hs.block b (block_of_cells h.1).1 (hn _ (Nat.le_refl _) (by omega))).trans h.1, (hs.block (b + 1) h.2.1.facts.1 (hn _ (by omega) (by omega))).trans h.2.1, (hs.block (b + 1 + 1) h.2.2.facts.1 (hn _ (by omega) (by omega))).trans h.2.2⟩
theorem FindBox.below {b : Nat} {rl mo : Bool} {k n : Int} {s : Value} {w w' : World} (h : FindBox b rl mo k n s w) (hb : Below w.heap.size w w') : FindBox b rl mo k n s w' :=
 ⟨(hb.block b (block_of_cells h.1).1).trans h.1, h.2.1.below hb, h.2.2.below hb⟩
theorem FindBox.new (w : World) (rl mo : Bool) (k n : Int) (s : Value) : FindBox w.heap.size rl mo k n s (((w.alloc (.cells #[.bool rl, .bool mo] 43)).alloc (.cells #[.int .i64 k, .int .i64 n, s] 25)).alloc (.cells #[.int .i64 0, .int .i64 0, .slice none 0 0] 25)) := by
 refine ⟨?_, ?_, ?_⟩
 ·exact ((below2 (w.alloc (.cells #[.bool rl, .bool mo] 43)) _ _).block w.heap.size (by simp)).trans (heap_new _ _)
 ·have := (VarAt.new (w.alloc (.cells #[.bool rl, .bool mo] 43)) k n s).below (below1 _ (.cells #[.int .i64 0, .int .i64 0, .slice none 0 0] 25))
  rwa [show (w.alloc (.cells #[.bool rl, .bool mo] 43)).heap.size = w.heap.size + 1 by simp] at this
 ·have := VarAt.new ((w.alloc (.cells #[.bool rl, .bool mo] 43)).alloc (.cells #[.int .i64 k, .int .i64 n, s] 25)) 0 0 (.slice none 0 0)
  rwa [show ((w.alloc (.cells #[.bool rl, .bool mo] 43)).alloc (.cells #[.int .i64 k, .int .i64 n, s] 25)).heap.size = w.heap.size + 1 + 1 by simp] at this
theorem FindBox.facts {b : Nat} {rl mo : Bool} {k n : Int} {s : Value} {w : World} (h : FindBox b rl mo k n s w) : (b < w.heap.size ∧ b + 1 < w.heap.size ∧ b + 1 + 1 < w.heap.size) ∧ w.cell? ⟨b, 0, none⟩ = some (.bool rl) ∧ w.cell? ⟨b, 1, none⟩ = some (.bool mo) ∧
  w.cell? ⟨b + 1, 0, none⟩ = some (.int .i64 k) ∧ w.cell? ⟨b + 1, 1, none⟩ = some (.int .i64 n) ∧ w.cell? ⟨b + 1, 2, none⟩ = some s ∧ (∀ i, w.frozen? ⟨b + 1 + 1, i, none⟩ = false) ∧ w.cell? ⟨b + 1 + 1, 0, none⟩ = some (.int .i64 0) ∧ w.cell? ⟨b + 1 + 1, 1, none⟩ = some (.int .i64 0) ∧ w.cell? ⟨b + 1 + 1, 2, none⟩ = some (.slice none 0 0) :=
 ⟨⟨(block_of_cells h.1).1, h.2.1.facts.1, h.2.2.facts.1⟩, (block_of_cells h.1).2.1 0, (block_of_cells h.1).2.1 1, h.2.1.facts.2.1, h.2.1.facts.2.2.1, h.2.1.facts.2.2.2.1, h.2.2.facts.2.2.2.2, h.2.2.facts.2.1, h.2.2.facts.2.2.1, h.2.2.facts.2.2.2.1⟩
set_option maxRecDepth 100000 in
set_option maxHeartbeats 3200000 in
theorem find_any {u : World} (g so : Nat) (sT : TypeId) (scs : Array Value) (rl mo : Bool) : ∀ (l : List Tm) (k n : Int) (w : World) (ps : List (Tm × Value × Nat)) (M : Nat → Prop) (v : Value), View u M w → StkAt g so sT scs ps M w → (Tm.mk k n l).allOk → ps.length + hgts l ≤ 100 → SlIn u 0 l v →
  Calls Tryz.prog 36 #[.agg #[.bool rl, .bool mo], .agg #[.int .i64 k, .int .i64 n, v], .pointer (some ⟨g, so, none⟩)] w (FindPost u g so sT scs ps M w (.mk k n l) v ((Tm.mk k n l).find rl mo)) := by
 intro l
 induction l using Tm.ind with
 | h l ih =>
 intro k n w ps M v hu hst hok hd hin
 obtain ⟨a, cap, bb, o, rfl, hl, hp, hc⟩ := hin.open
 have hlt := hst.lt
 have hroot : (Tm.mk k n l).rootOk := ((Tm.mk k n l).allOk_iff.1 hok).1
 have hkids : allsOk l := ((Tm.mk k n l).allOk_iff.1 hok).2
 have hgs := (hlt g hst.own).2
 obtain ⟨R, hR⟩ : ∃ R, R = (Tm.mk k n l).redex := ⟨_, rfl⟩
 obtain ⟨res, hres⟩ : ∃ res, res = (Tm.mk k n l).find rl mo := ⟨_, rfl⟩
 obtain ⟨fr, hfr⟩ : ∃ fr, fr = findL rl mo (.mk k n l) l 0 := ⟨_, rfl⟩
 have HRED : Hid (∀ W Mw, View u Mw W → Calls Tryz.prog 54 #[.agg #[.int .i64 k, .int .i64 n, .slice a l.length cap]] W (IntPost W R)) := tuck fun W Mw h => by
  rw [hR]
  exact redI_any (.mk k n l) hroot W (.slice a l.length cap) (h.sl hin)
 have HFIND : Hid (res = if R ≠ 0 ∧ rl = false then some ([], .mk k n l) else fr.or (if R ≠ 0 then some ([], .mk k n l) else none)) := tuck (by rw [hres, hR, hfr, Tm.find]; cases findL rl mo (.mk k n l) l 0 <;> rfl)
 have HFR := tuck hfr
 rw [← hres]
 have HY : Hid (∀ M' w', Step M w w' M' → StkAt g so sT scs ps M' w' → res = some ([], .mk k n l) → FindPost u g so sT scs ps M w (.mk k n l) (.slice a l.length cap) res (.returned (.tuple #[.agg #[.int .i64 k, .int .i64 n, .slice a l.length cap], .bool true])) w') := tuck fun M' w' h1 h2 h3 => by
  rw [h3]
  exact ⟨M', h1, .slice a l.length cap, [], rfl, hin, by rw [List.append_nil]; exact h2, trivial⟩
 have HN : Hid (∀ M' w', Step M w w' M' → StkAt g so sT scs ps M' w' → res = none → FindPost u g so sT scs ps M w (.mk k n l) (.slice a l.length cap) res (.returned (.tuple #[.agg #[.int .i64 k, .int .i64 n, .slice a l.length cap], .bool false])) w') := tuck fun M' w' h1 h2 h3 => by
  rw [h3]
  exact ⟨M', h1, rfl, h2⟩
 have HS : Hid (∀ M' w' p (x : Tm) sx qs, Step M w w' M' → StkAt g so sT scs (ps ++ qs) M' w' → SlIn u 0 x.kids sx → Passed u p qs → res = some (p, x) → FindPost u g so sT scs ps M w (.mk k n l) (.slice a l.length cap) res (.returned (.tuple #[.agg #[.int .i64 x.kind, .int .i64 x.num, sx], .bool true])) w') := tuck fun M' w' p x sx qs h1 h2 h3 h4 h5 => by
  rw [h5]
  exact ⟨M', h1, sx, qs, rfl, h3, h2, h4⟩
 have HIN := tuck hin
 have HI := tuck ih
 have HP := tuck hp
 have HC := tuck hc
 have HKIDS := tuck hkids
 have HST := tuck hst
 have HU := tuck hu
 have HLT := tuck hlt
 have hbox := FindBox.new w rl mo k n (.slice a l.length cap)
 have hb0 := below3 w (.cells #[.bool rl, .bool mo] 43) (.cells #[.int .i64 k, .int .i64 n, .slice a l.length cap] 25) (.cells #[.int .i64 0, .int .i64 0, .slice none 0 0] 25)
 generalize FindPost u g so sT scs ps M w (.mk k n l) (.slice a l.length cap) res = post at *
 have HBOX := tuck hbox
 have HB0 := tuck hb0
 unfold maxLen at hl
 clear hin ih hp hc hok hroot hkids hst hu hlt hR hres hfr hbox hb0
 go_enter Tryz.func36, Tryz.ntmps36
 go_wp2_with fail
 generalize (((w.alloc (.cells #[.bool rl, .bool mo] 43)).alloc (.cells #[.int .i64 k, .int .i64 n, .slice a l.length cap] 25)).alloc (.cells #[.int .i64 0, .int .i64 0, .slice none 0 0] 25)) = W0 at *
 refine (HRED.out _ M (HU.out.below HB0.out)).mono ?_
 rintro e w1 ⟨rfl, hb1⟩
 have hs1 : Step M w w1 M := Step.of_below (bAfter HB0.out hb1) fun i hi => (HLT.out i hi).2
 have HS1 := tuck hs1
 have HBX1 := tuck (HBOX.out.below hb1)
 have hnm : ∀ i, w.heap.size ≤ i → i ≤ w.heap.size + 2 → ¬ M i := fun i h _ hm => by have := (HLT.out i hm).2; omega
 have HNM := tuck hnm
 have HST1 := tuck (HST.out.below (bAfter HB0.out hb1))
 clear HBOX HB0 hb1 hs1 hnm HRED HST
 obtain ⟨⟨z0, z1, z2⟩, b0, b1, b2, b3, b4, b5, b6, b7, b8⟩ := HBX1.out.facts
 rcases (show (R ≠ 0 ∧ rl = false) ∨ (R ≠ 0 ∧ rl = true) ∨ R = 0 by cases rl <;> by_cases h : R = 0 <;> simp [h]) with ⟨hr, rfl⟩ | ⟨hr, rfl⟩ | rfl
 ·have g1 : decide (R = 0) = false := by simpa using hr
  have g2 : (R != 0) = true := by simpa using hr
  have HRES : Hid (res = some ([], .mk k n l)) := tuck (HFIND.out.trans (if_pos ⟨hr, rfl⟩))
  clear HFIND HFR HI
  go_wp2_with fail
  refine bodyPost_ret (v := .tuple #[.agg #[.int .i64 k, .int .i64 n, .slice a l.length cap], .bool true]) (by simp [results, Tryz.results36, go_sem, *]) rfl (HY.out M _ ?_ ?_ HRES.out)
  ·exact HS1.out.setNew3 (by omega) _ _ _ _ _ _
  ·exact HST1.out.far3 (HNM.out _ (by omega) (by omega)) _ _ _ _ _ _
 ·have g1 : decide (R = 0) = false := by simpa using hr
  have g2 : (R != 0) = true := by simpa using hr
  replace HFIND : Hid (res = fr.or (some ([], .mk k n l))) := tuck (by rw [HFIND.out, if_neg (by simp), if_pos hr])
  clear HN
  go_wp2_with fail
  go_loopw [26] (fun i wr => ∃ (q : Nat) (Mq : Nat → Prop), q ≤ l.length ∧ i = .int .i64 q ∧ Step M w1 wr Mq ∧ StkAt g so sT scs ps Mq wr ∧ fr = findL true mo (.mk k n l) (l.drop q) q) (fun i _ => l.length - (intOf i).toNat)
  case atStart => exact ⟨0, M, Nat.zero_le _, rfl, Step.refl HS1.out.lt, HST1.out, HFR.out⟩
  case round =>
   obtain ⟨q, Mq, hq, rfl, hsq, hstq, hfq⟩ := hrel
   have HSQ := tuck hsq
   have HSTQ := tuck hstq
   have HFQ := tuck hfq
   have HBXQ := tuck (HBX1.out.step hsq HNM.out)
   have HNQ : Hid (∀ i, w.heap.size ≤ i → i ≤ w.heap.size + 2 → ¬ Mq i) := tuck fun i h h' hm => HNM.out i h h' (hsq.grow i (by omega) hm)
   clear hsq hstq hfq b0 b1 b2 b3 b4 b5 b6 b7 b8 HFR
   obtain ⟨⟨y0, y1, y2⟩, b0, b1, b2, b3, b4, b5, b6, b7, b8⟩ := HBXQ.out.facts
   by_cases hlt : q < l.length
   ·have hlti : ((q : Int) < (l.length : Int)) := by omega
    obtain ⟨rfl, _, -⟩ := HP.out (by intro e; rw [e] at hlt; simp at hlt)
    obtain ⟨sv, c0, c1, c2, hs⟩ := HC.out q hlt
    obtain ⟨sa, sc, rfl⟩ := hs.form
    have hbel := HU.out.step (HS1.out.trans HSQ.out)
    replace c0 := hbel.rd _ _ c0
    replace c1 := hbel.rd _ _ c1
    replace c2 := hbel.rd _ _ c2
    have hh := mem_hgts hlt
    rw [Tm.hgt_eq] at hh
    have hokq : l[q].allOk := (allsOk_iff l).1 HKIDS.out _ (List.getElem_mem hlt)
    have HI' := tuck (HI.out q hlt l[q].kind l[q].num)
    rw [Tm.eta] at HI'
    have HOKQ := tuck hokq
    have HS' := tuck hs
    have HBEL := tuck hbel
    have HDROP : Hid (fr = match (if mo = true ∧ mainIx k ≠ (q : Int) then none else l[q].find true mo) with | some (p, r) => some ((Tm.mk k n l, q) :: p, r) | none => findL true mo (.mk k n l) (l.drop (q + 1)) (q + 1)) := tuck (by rw [HFQ.out, List.drop_eq_getElem_cons hlt, findL]; rfl)
    clear hs hokq hbel HI HFQ HP HC HKIDS
    generalize l[q] = x at *
    have HV := tuck (VarAt.new wr x.kind x.num (.slice sa x.kids.length sc))
    have HSW : Hid (Step Mq wr (wr.alloc (.cells #[.int .i64 x.kind, .int .i64 x.num, .slice sa x.kids.length sc] 25)) Mq) := tuck (Step.of_below (below1 _ _) HSQ.out.lt)
    have HBW := tuck (below1 wr (.cells #[.int .i64 x.kind, .int .i64 x.num, .slice sa x.kids.length sc] 25))
    have HBXW := tuck (HBXQ.out.below HBW.out)
    have HNV : Hid (¬ Mq wr.heap.size) := tuck fun h => Nat.lt_irrefl _ (HSQ.out.lt _ h)
    have HSTW := tuck (HSTQ.out.below HBW.out)
    clear b0 b1 b2 b3 b4 b5 b6 b7 b8
    obtain ⟨⟨x0, x1, x2⟩, b0, b1, b2, b3, b4, b5, b6, b7, b8⟩ := HBXW.out.facts
    obtain ⟨v0, v1, v2, v3, v4⟩ := HV.out.facts
    go_wp2_with fail
    generalize (wr.alloc (.cells #[.int .i64 x.kind, .int .i64 x.num, .slice sa x.kids.length sc] 25)) = W2 at *
    generalize wr.heap.size = g2 at *
    refine (searches_any _ mo k q _).mono ?_
    rintro e w3 ⟨rfl, hb3⟩
    have HSW3 := tuck (HSW.out.and hb3)
    have HST3 := tuck (HSTW.out.below hb3)
    have HBX3 := tuck (HBXW.out.below hb3)
    have HV3 := tuck (HV.out.below hb3)
    clear b0 b1 b2 b3 b4 b5 b6 b7 b8 v0 v1 v2 v3 v4 hb3 c0 c1 c2
    obtain ⟨⟨x0, x1, x2⟩, b0, b1, b2, b3, b4, b5, b6, b7, b8⟩ := HBX3.out.facts
    obtain ⟨v0, v1, v2, v3, v4⟩ := HV3.out.facts
    by_cases hsr : mo = true ∧ mainIx k ≠ (q : Int)
    ·have HD : Hid (fr = findL true mo (.mk k n l) (l.drop (q + 1)) (q + 1)) := tuck (by rw [HDROP.out, if_pos hsr])
     rw [decide_eq_true hsr]
     clear HDROP hsr
     go_wp2_with fail
     go_roundw
     case rel => exact ⟨q + 1, Mq, by omega, by go_num, HSQ.out.trans HSW3.out, HST3.out, HD.out⟩
     case measure => simp [intOf]; omega
    ·rw [if_neg hsr] at HDROP
     rw [decide_eq_false hsr]
     clear hsr
     go_wp2_with fail
     refine (push_any k n (some ⟨bb, o, none⟩) l.length cap q (.mk k n l) ⟨rfl, rfl⟩ (by omega) HST3.out).mono ?_
     rintro e w4 ⟨rfl, M4, hs4, hst4⟩
     have HS4 := tuck (HSW3.out.trans hs4)
     have HST4 := tuck hst4
     have HBX4 := tuck (HBX3.out.step hs4 HNQ.out)
     have HV4 : Hid (VarAt g2 x.kind x.num (.slice sa x.kids.length sc) w4) := tuck ((hs4.block g2 v0 HNV.out).trans HV3.out)
     have HN4 : Hid (∀ i, w.heap.size ≤ i → i ≤ w.heap.size + 2 → ¬ M4 i) := tuck fun i h h' hm => HNQ.out i h h' (hs4.grow i (by omega) hm)
     clear b0 b1 b2 b3 b4 b5 b6 b7 b8 v0 v1 v2 v3 v4 hs4 hst4
     obtain ⟨⟨x0, x1, x2⟩, b0, b1, b2, b3, b4, b5, b6, b7, b8⟩ := HBX4.out.facts
     obtain ⟨v0, v1, v2, v3, v4⟩ := HV4.out.facts
     have hcall := HI'.out w4 (ps ++ [(.mk k n l, .slice (some ⟨bb, o, none⟩) l.length cap, q)]) M4 (.slice sa x.kids.length sc) (HBEL.out.step HS4.out) HST4.out HOKQ.out (by simp; omega) HS'.out
     cases hk : x.find true mo with
     | none =>
      rw [hk] at hcall HDROP
      have HCALL := tuck hcall
      clear hcall hk
      go_wp2_with fail
      refine HCALL.out.mono ?_
      rintro e w5 ⟨M5, hs5, rfl, hst5⟩
      have HS5 := tuck (HS4.out.trans hs5)
      have HST5 := tuck hst5
      clear b0 b1 b2 b3 b4 b5 b6 b7 b8 v0 v1 v2 v3 v4 hs5 hst5 HCALL
      go_wp2_with fail
      refine (pop_any (HST5.out.below (below1 _ _))).mono ?_
      rintro e w6 ⟨rfl, M6, hs6, hst6⟩
      have HS6 := tuck ((HS5.out.and (below1 _ _)).trans hs6)
      have HST6 := tuck hst6
      clear hs6 hst6
      go_wp2_with fail
      go_roundw
      case rel => exact ⟨q + 1, M6, by omega, by go_num, HSQ.out.trans HS6.out, HST6.out, HDROP.out⟩
      case measure => simp [intOf]; omega
     | some y =>
      obtain ⟨p, y⟩ := y
      rw [hk] at hcall HDROP
      have HCALL := tuck hcall
      clear hcall hk
      go_wp2_with fail
      refine HCALL.out.mono ?_
      rintro e w5 ⟨M5, hs5, sx, qs, rfl, hsx, hst5, hpass⟩
      obtain ⟨xa, xc, rfl⟩ := hsx.form
      have HS5 := tuck (HS4.out.trans hs5)
      have HST5 : Hid (StkAt g so sT scs (ps ++ ((.mk k n l, .slice (some ⟨bb, o, none⟩) l.length cap, q) :: qs)) M5 w5) := tuck (by rw [List.append_assoc] at hst5; exact hst5)
      have HN5 : Hid (∀ i, w.heap.size ≤ i → i ≤ w.heap.size + 2 → ¬ M5 i) := tuck fun i h h' hm => HN4.out i h h' (hs5.grow i (by omega) hm)
      have HX5 := tuck hsx
      have HPASS := tuck hpass
      have HBX5 := tuck (HBX4.out.step hs5 HN4.out)
      have HB6 := tuck (below1 w5 (.cells #[.int .i64 y.kind, .int .i64 y.num, .slice xa y.kids.length xc] 25))
      have HBX6 := tuck (HBX5.out.below HB6.out)
      have HV6 := tuck (VarAt.new w5 y.kind y.num (.slice xa y.kids.length xc))
      have HRES : Hid (res = some ((.mk k n l, q) :: p, y)) := tuck (by rw [HFIND.out, HDROP.out]; rfl)
      clear b0 b1 b2 b3 b4 b5 b6 b7 b8 v0 v1 v2 v3 v4 hs5 hst5 hsx hpass HCALL
      obtain ⟨⟨x0, x1, x2⟩, b0, b1, b2, b3, b4, b5, b6, b7, b8⟩ := HBX6.out.facts
      obtain ⟨v0, v1, v2, v3, v4⟩ := HV6.out.facts
      go_wp2_with fail
      refine bodyPost_ret (v := .tuple #[.agg #[.int .i64 y.kind, .int .i64 y.num, .slice xa y.kids.length xc], .bool true]) (by simp [results, Tryz.results36, go_sem, *]) rfl (HS.out M5 _ ((.mk k n l, q) :: p) y (.slice xa y.kids.length xc) ((.mk k n l, .slice (some ⟨bb, o, none⟩) l.length cap, q) :: qs) ?_ ?_ HX5.out ⟨rfl, rfl, HIN.out, HPASS.out⟩ HRES.out)
      ·exact (((HS1.out.trans HSQ.out).trans HS5.out).and HB6.out).setNew3 (by omega) _ _ _ _ _ _
      ·exact (HST5.out.below HB6.out).far3 (HN5.out _ (by omega) (by omega)) _ _ _ _ _ _
   ·have hql : q = l.length := by omega
    subst hql
    have hfn : fr = none := by rw [HFQ.out, List.drop_length, findL]
    have hll : ¬ ((l.length : Int) < (l.length : Int)) := by omega
    have HRES := tuck (HFIND.out.trans (by rw [hfn]; rfl : _ = some ([], .mk k n l)))
    clear HI HFQ hfn HP HC HKIDS
    go_wp2_with fail
    refine bodyPost_ret (v := .tuple #[.agg #[.int .i64 k, .int .i64 n, .slice a l.length cap], .bool true]) (by simp [results, Tryz.results36, go_sem, *]) rfl (HY.out Mq _ ?_ ?_ HRES.out)
    ·exact (HS1.out.trans HSQ.out).setNew3 (by omega) _ _ _ _ _ _
    ·exact HSTQ.out.far3 (HNQ.out _ (by omega) (by omega)) _ _ _ _ _ _
 ·replace HFIND : Hid (res = fr.or none) := tuck (by rw [HFIND.out, if_neg (by simp), if_neg (by simp)])
  clear HY
  go_wp2_with fail
  go_loopw [26] (fun i wr => ∃ (q : Nat) (Mq : Nat → Prop), q ≤ l.length ∧ i = .int .i64 q ∧ Step M w1 wr Mq ∧ StkAt g so sT scs ps Mq wr ∧ fr = findL rl mo (.mk k n l) (l.drop q) q) (fun i _ => l.length - (intOf i).toNat)
  case atStart => exact ⟨0, M, Nat.zero_le _, rfl, Step.refl HS1.out.lt, HST1.out, HFR.out⟩
  case round =>
   obtain ⟨q, Mq, hq, rfl, hsq, hstq, hfq⟩ := hrel
   have HSQ := tuck hsq
   have HSTQ := tuck hstq
   have HFQ := tuck hfq
   have HBXQ := tuck (HBX1.out.step hsq HNM.out)
   have HNQ : Hid (∀ i, w.heap.size ≤ i → i ≤ w.heap.size + 2 → ¬ Mq i) := tuck fun i h h' hm => HNM.out i h h' (hsq.grow i (by omega) hm)
   clear hsq hstq hfq b0 b1 b2 b3 b4 b5 b6 b7 b8 HFR
   obtain ⟨⟨y0, y1, y2⟩, b0, b1, b2, b3, b4, b5, b6, b7, b8⟩ := HBXQ.out.facts
   by_cases hlt : q < l.length
   ·have hlti : ((q : Int) < (l.length : Int)) := by omega
    obtain ⟨rfl, _, -⟩ := HP.out (by intro e; rw [e] at hlt; simp at hlt)
    obtain ⟨sv, c0, c1, c2, hs⟩ := HC.out q hlt
    obtain ⟨sa, sc, rfl⟩ := hs.form
    have hbel := HU.out.step (HS1.out.trans HSQ.out)
    replace c0 := hbel.rd _ _ c0
    replace c1 := hbel.rd _ _ c1
    replace c2 := hbel.rd _ _ c2
    have hh := mem_hgts hlt
    rw [Tm.hgt_eq] at hh
    have hokq : l[q].allOk := (allsOk_iff l).1 HKIDS.out _ (List.getElem_mem hlt)
    have HI' := tuck (HI.out q hlt l[q].kind l[q].num)
    rw [Tm.eta] at HI'
    have HOKQ := tuck hokq
    have HS' := tuck hs
    have HBEL := tuck hbel
    have HDROP : Hid (fr = match (if mo = true ∧ mainIx k ≠ (q : Int) then none else l[q].find rl mo) with | some (p, r) => some ((Tm.mk k n l, q) :: p, r) | none => findL rl mo (.mk k n l) (l.drop (q + 1)) (q + 1)) := tuck (by rw [HFQ.out, List.drop_eq_getElem_cons hlt, findL]; rfl)
    clear hs hokq hbel HI HFQ HP HC HKIDS
    generalize l[q] = x at *
    have HV := tuck (VarAt.new wr x.kind x.num (.slice sa x.kids.length sc))
    have HSW : Hid (Step Mq wr (wr.alloc (.cells #[.int .i64 x.kind, .int .i64 x.num, .slice sa x.kids.length sc] 25)) Mq) := tuck (Step.of_below (below1 _ _) HSQ.out.lt)
    have HBW := tuck (below1 wr (.cells #[.int .i64 x.kind, .int .i64 x.num, .slice sa x.kids.length sc] 25))
    have HBXW := tuck (HBXQ.out.below HBW.out)
    have HNV : Hid (¬ Mq wr.heap.size) := tuck fun h => Nat.lt_irrefl _ (HSQ.out.lt _ h)
    have HSTW := tuck (HSTQ.out.below HBW.out)
    clear b0 b1 b2 b3 b4 b5 b6 b7 b8
    obtain ⟨⟨x0, x1, x2⟩, b0, b1, b2, b3, b4, b5, b6, b7, b8⟩ := HBXW.out.facts
    obtain ⟨v0, v1, v2, v3, v4⟩ := HV.out.facts
    go_wp2_with fail
    generalize (wr.alloc (.cells #[.int .i64 x.kind, .int .i64 x.num, .slice sa x.kids.length sc] 25)) = W2 at *
    generalize wr.heap.size = g2 at *
    refine (searches_any _ mo k q _).mono ?_
    rintro e w3 ⟨rfl, hb3⟩
    have HSW3 := tuck (HSW.out.and hb3)
    have HST3 := tuck (HSTW.out.below hb3)
    have HBX3 := tuck (HBXW.out.below hb3)
    have HV3 := tuck (HV.out.below hb3)
    clear b0 b1 b2 b3 b4 b5 b6 b7 b8 v0 v1 v2 v3 v4 hb3 c0 c1 c2
    obtain ⟨⟨x0, x1, x2⟩, b0, b1, b2, b3, b4, b5, b6, b7, b8⟩ := HBX3.out.facts
    obtain ⟨v0, v1, v2, v3, v4⟩ := HV3.out.facts
    by_cases hsr : mo = true ∧ mainIx k ≠ (q : Int)
    ·have HD : Hid (fr = findL rl mo (.mk k n l) (l.drop (q + 1)) (q + 1)) := tuck (by rw [HDROP.out, if_pos hsr])
     rw [decide_eq_true hsr]
     clear HDROP hsr
     go_wp2_with fail
     go_roundw
     case rel => exact ⟨q + 1, Mq, by omega, by go_num, HSQ.out.trans HSW3.out, HST3.out, HD.out⟩
     case measure => simp [intOf]; omega
    ·rw [if_neg hsr] at HDROP
     rw [decide_eq_false hsr]
     clear hsr
     go_wp2_with fail
     refine (push_any k n (some ⟨bb, o, none⟩) l.length cap q (.mk k n l) ⟨rfl, rfl⟩ (by omega) HST3.out).mono ?_
     rintro e w4 ⟨rfl, M4, hs4, hst4⟩
     have HS4 := tuck (HSW3.out.trans hs4)
     have HST4 := tuck hst4
     have HBX4 := tuck (HBX3.out.step hs4 HNQ.out)
     have HV4 : Hid (VarAt g2 x.kind x.num (.slice sa x.kids.length sc) w4) := tuck ((hs4.block g2 v0 HNV.out).trans HV3.out)
     have HN4 : Hid (∀ i, w.heap.size ≤ i → i ≤ w.heap.size + 2 → ¬ M4 i) := tuck fun i h h' hm => HNQ.out i h h' (hs4.grow i (by omega) hm)
     clear b0 b1 b2 b3 b4 b5 b6 b7 b8 v0 v1 v2 v3 v4 hs4 hst4
     obtain ⟨⟨x0, x1, x2⟩, b0, b1, b2, b3, b4, b5, b6, b7, b8⟩ := HBX4.out.facts
     obtain ⟨v0, v1, v2, v3, v4⟩ := HV4.out.facts
     have hcall := HI'.out w4 (ps ++ [(.mk k n l, .slice (some ⟨bb, o, none⟩) l.length cap, q)]) M4 (.slice sa x.kids.length sc) (HBEL.out.step HS4.out) HST4.out HOKQ.out (by simp; omega) HS'.out
     cases hk : x.find rl mo with
     | none =>
      rw [hk] at hcall HDROP
      have HCALL := tuck hcall
      clear hcall hk
      go_wp2_with fail
      refine HCALL.out.mono ?_
      rintro e w5 ⟨M5, hs5, rfl, hst5⟩
      have HS5 := tuck (HS4.out.trans hs5)
      have HST5 := tuck hst5
      clear b0 b1 b2 b3 b4 b5 b6 b7 b8 v0 v1 v2 v3 v4 hs5 hst5 HCALL
      go_wp2_with fail
      refine (pop_any (HST5.out.below (below1 _ _))).mono ?_
      rintro e w6 ⟨rfl, M6, hs6, hst6⟩
      have HS6 := tuck ((HS5.out.and (below1 _ _)).trans hs6)
      have HST6 := tuck hst6
      clear hs6 hst6
      go_wp2_with fail
      go_roundw
      case rel => exact ⟨q + 1, M6, by omega, by go_num, HSQ.out.trans HS6.out, HST6.out, HDROP.out⟩
      case measure => simp [intOf]; omega
     | some y =>
      obtain ⟨p, y⟩ := y
      rw [hk] at hcall HDROP
      have HCALL := tuck hcall
      clear hcall hk
      go_wp2_with fail
      refine HCALL.out.mono ?_
      rintro e w5 ⟨M5, hs5, sx, qs, rfl, hsx, hst5, hpass⟩
      obtain ⟨xa, xc, rfl⟩ := hsx.form
      have HS5 := tuck (HS4.out.trans hs5)
      have HST5 : Hid (StkAt g so sT scs (ps ++ ((.mk k n l, .slice (some ⟨bb, o, none⟩) l.length cap, q) :: qs)) M5 w5) := tuck (by rw [List.append_assoc] at hst5; exact hst5)
      have HN5 : Hid (∀ i, w.heap.size ≤ i → i ≤ w.heap.size + 2 → ¬ M5 i) := tuck fun i h h' hm => HN4.out i h h' (hs5.grow i (by omega) hm)
      have HX5 := tuck hsx
      have HPASS := tuck hpass
      have HBX5 := tuck (HBX4.out.step hs5 HN4.out)
      have HB6 := tuck (below1 w5 (.cells #[.int .i64 y.kind, .int .i64 y.num, .slice xa y.kids.length xc] 25))
      have HBX6 := tuck (HBX5.out.below HB6.out)
      have HV6 := tuck (VarAt.new w5 y.kind y.num (.slice xa y.kids.length xc))
      have HRES : Hid (res = some ((.mk k n l, q) :: p, y)) := tuck (by rw [HFIND.out, HDROP.out]; rfl)
      clear b0 b1 b2 b3 b4 b5 b6 b7 b8 v0 v1 v2 v3 v4 hs5 hst5 hsx hpass HCALL
      obtain ⟨⟨x0, x1, x2⟩, b0, b1, b2, b3, b4, b5, b6, b7, b8⟩ := HBX6.out.facts
      obtain ⟨v0, v1, v2, v3, v4⟩ := HV6.out.facts
      go_wp2_with fail
      refine bodyPost_ret (v := .tuple #[.agg #[.int .i64 y.kind, .int .i64 y.num, .slice xa y.kids.length xc], .bool true]) (by simp [results, Tryz.results36, go_sem, *]) rfl (HS.out M5 _ ((.mk k n l, q) :: p) y (.slice xa y.kids.length xc) ((.mk k n l, .slice (some ⟨bb, o, none⟩) l.length cap, q) :: qs) ?_ ?_ HX5.out ⟨rfl, rfl, HIN.out, HPASS.out⟩ HRES.out)
      ·exact (((HS1.out.trans HSQ.out).trans HS5.out).and HB6.out).setNew3 (by omega) _ _ _ _ _ _
      ·exact (HST5.out.below HB6.out).far3 (HN5.out _ (by omega) (by omega)) _ _ _ _ _ _
   ·have hql : q = l.length := by omega
    subst hql
    have hfn : fr = none := by rw [HFQ.out, List.drop_length, findL]
    have hll : ¬ ((l.length : Int) < (l.length : Int)) := by omega
    have HRES := tuck (HFIND.out.trans (by rw [hfn]; rfl : _ = none))
    clear HI HFQ hfn HP HC HKIDS
    go_wp2_with fail
    refine bodyPost_ret (v := .tuple #[.agg #[.int .i64 k, .int .i64 n, .slice a l.length cap], .bool false]) (by simp [results, Tryz.results36, go_sem, *]) rfl (HN.out Mq _ ?_ ?_ HRES.out)
    ·exact (HS1.out.trans HSQ.out).setNew3 (by omega) _ _ _ _ _ _
    ·exact HSTQ.out.far3 (HNQ.out _ (by omega) (by omega)) _ _ _ _ _ _
end Go.Proofs.YtlbikgnanabjgaaGreat
